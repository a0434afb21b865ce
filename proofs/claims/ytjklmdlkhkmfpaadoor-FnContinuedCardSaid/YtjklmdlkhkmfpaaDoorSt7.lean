/- Standard words: the model's look and the program's. -/
import Derived.Test.YtjklmdlkhkmfpaaDoorBl7
import Derived.Test.YtjklmdlkhkmfpaaDoorAr7
import Derived.Test.YtjklmdlkhkmfpaaDoorShelf
import Derived.Shelf.Strings.Repeat
import Derived.Deep.LoopGhost
namespace Go.Proofs.YtjklmdlkhkmfpaaDoor
open Go.ChangeShapes Go.WideShapes Go.ChangeAt Go.RowKit Go.Deep
set_option linter.unusedVariables false
def repB (n : ByteArray) (c : Nat) : ByteArray := ⟨(Lib.repeatL n.data.toList c).toArray⟩
theorem repeatL_len (l : List UInt8) : ∀ c, (Lib.repeatL l c).length = l.length * c := by
  intro c
  induction c with
  | zero => simp [Lib.repeatL]
  | succ c ih => simp only [Lib.repeatL, List.length_append, ih, Nat.mul_succ]; omega
theorem repeatL_back (l : List UInt8) : ∀ c, Lib.repeatL l (c + 1) = Lib.repeatL l c ++ l := by
  intro c
  induction c with
  | zero => simp [Lib.repeatL]
  | succ c ih =>
    show l ++ Lib.repeatL l (c + 1) = (l ++ Lib.repeatL l c) ++ l
    rw [ih, List.append_assoc]
theorem data_len (s : ByteArray) : s.data.toList.length = s.size := Array.length_toList.trans rfl
theorem repB_size (n : ByteArray) (c : Nat) : (repB n c).size = n.size * c := by
  have h := repeatL_len n.data.toList c
  rw [data_len] at h
  rw [← h]
  show (Lib.repeatL n.data.toList c).toArray.size = _
  simp
theorem bytes_app (x y : List UInt8) : (⟨x.toArray⟩ ++ ⟨y.toArray⟩ : ByteArray) = ⟨(x ++ y).toArray⟩ := by
  apply ByteArray.ext
  simp
theorem repB_zero (n : ByteArray) : repB n 0 = ⟨#[]⟩ := rfl
theorem repB_succ (n : ByteArray) (c : Nat) : repB n (c + 1) = repB n c ++ n := by
  unfold repB
  rw [repeatL_back]
  exact (bytes_app _ n.data.toList).symm
/-- The last word, with the numbers still to come. -/
def stGo : List Int → ByteArray → ByteArray → Option ByteArray
  | [], _, n => some n
  | x :: r, b, n => if (repB n x.toNat ++ b).size ≤ 120 then stGo r n (repB n x.toNat ++ b) else none
def stO (zs : List Int) : Option ByteArray := if okTr zs 120 then stGo zs ⟨#[98]⟩ ⟨#[97]⟩ else none
def stB (zs : List Int) : Bool := (stO zs).isSome
def stS (zs : List Int) : ByteArray := (stO zs).getD ByteArray.empty
theorem stGo_step (zs : List Int) (k : Nat) (h : k < zs.length) (b n : ByteArray) : stGo (zs.drop k) b n = if (repB n (zs.getD k 0).toNat ++ b).size ≤ 120 then stGo (zs.drop (k + 1)) n (repB n (zs.getD k 0).toNat ++ b) else none := by
  rw [List.drop_eq_getElem_cons h, getD_get zs k h]; rfl
theorem rep_bd {n b : ByteArray} {x : Int} (hn : n.size ≤ 120) (hb : b.size ≤ 120) (hx : 0 ≤ x ∧ x ≤ 120) : (repB n x.toNat).size ≤ 14400 ∧ n.size * x.toNat ≤ 14400 ∧ (repB n x.toNat ++ b).size = (repB n x.toNat).size + b.size := by
  have e : n.size * x.toNat ≤ 120 * 120 := Nat.mul_le_mul hn (by omega)
  rw [repB_size]
  refine ⟨by omega, by omega, ?_⟩
  rw [ByteArray.size_append, repB_size]
set_option maxHeartbeats 1600000 in
theorem StandardWord_any (ad : Option Addr) (cap : Nat) (zs : List Int) (w : World) (hz : Ints w ad zs) :
    Calls Tryd.prog 9 #[.slice ad zs.length cap] w fun e w' => e = .returned (.tuple #[.string (stS zs), .bool (stB zs)]) ∧ Keep w w' := by
  cases hok : okTr zs 120
  · rw [show stS zs = ByteArray.empty from by unfold stS stO; rw [hok]; rfl, show stB zs = false from by unfold stB stO; rw [hok]; rfl]
    go_enter Tryd.func9, Tryd.ntmps9
    go_wp2_with (go_at_call 16; refine (areTerms_any _ _ _ _ _ hz).mono ?_; rw [hok]; rintro e w' ⟨rfl, rfl⟩)
    go_ret2
    exact ⟨rfl, Below.refl _ _⟩
  · have HO : Hid (stO zs = stGo (zs.drop 0) ⟨#[98]⟩ ⟨#[97]⟩) := Lib.hid (by unfold stO; rw [hok]; rfl)
    have hok2 := hok
    unfold okTr at hok2
    simp only [Bool.and_eq_true, decide_eq_true_eq] at hok2
    have h20 := hok2.1
    have HT := Lib.hid (fun k (h : k < zs.length) => trmB_bd (trms_at hok2.2 h))
    have HST := Lib.hid (stGo_step zs)
    have HRB := Lib.hid (fun (n b : ByteArray) (x : Int) hn hb hx => rep_bd (n := n) (b := b) (x := x) hn hb hx)
    have HG0 : Hid (stGo (zs.drop 0) ⟨#[98]⟩ ⟨#[97]⟩ = stO zs) := Lib.hid HO.out.symm
    have HS0 : Hid (∀ v, stO zs = some v → stS zs = v ∧ stB zs = true) := Lib.hid (fun v h => by unfold stS stB; rw [h]; exact ⟨rfl, rfl⟩)
    have HN0 : Hid (stO zs = none → stS zs = ByteArray.empty ∧ stB zs = false) := Lib.hid (fun h => by unfold stS stB; rw [h]; exact ⟨rfl, rfl⟩)
    generalize stS zs = V1 at *
    generalize stB zs = V2 at *
    generalize stO zs = V at *
    clear hok2
    go_enter Tryd.func9, Tryd.ntmps9
    go_wp2_with (go_at_call 16; refine (areTerms_any _ _ _ _ _ hz).mono ?_; rw [hok]; rintro e w' ⟨rfl, rfl⟩)
    go_loopg [4, 5, 7, 13] zs.length (fun kk b n _ i wr => ∃ (k : Nat) (x y : ByteArray), k ≤ zs.length ∧ kk = zs.length - k ∧ i = .int .i64 k ∧ b = .string x ∧ n = .string y ∧ x.size ≤ 120 ∧ y.size ≤ 120 ∧ Hid (stGo (zs.drop k) x y = V) ∧ Hid (Keep w wr))
    case atStart => exact ⟨0, ⟨#[98]⟩, ⟨#[97]⟩, Nat.zero_le _, rfl, rfl, rfl, rfl, by decide, by decide, HG0, Lib.hid (Below.refl _ _)⟩
    case round =>
      obtain ⟨k, x, y, hk, rfl, rfl, rfl, rfl, hx, hy, HG, HK⟩ := hrel
      by_cases hlt : k < zs.length
      · have HI : Hid (Ints wr ad zs) := Lib.hid (hz.keep HK.out (Nat.le_refl _))
        rcases HI.out.at_ with h | ⟨b, off, rfl, hb1, hc⟩
        · subst h; simp at hlt
        have hcx := hc k hlt
        have hzb := HT.out k hlt
        have HSk := Lib.hid (HST.out k hlt x y)
        have hki : (k : Int) < (zs.length : Int) := by omega
        generalize zs.getD k 0 = z at *
        have hrb := HRB.out y x z hy hx hzb
        have HRC : Hid (∀ W, Calls Tryd.prog 17 #[.string y, .int .i64 z] W fun e w' => e = .returned (.string (repB y z.toNat)) ∧ Keep W w') := Lib.hid (fun W => by
          have := Tryd.strings_Repeat y z.toNat W (by omega) (by omega)
          rw [show ((z.toNat : Nat) : Int) = z by omega] at this
          exact this)
        clear hc
        obtain ⟨r1, _, r3⟩ := hrb
        generalize repB y z.toNat = R at *
        by_cases hq : (R ++ x).size ≤ 120
        · have HGn : Hid (stGo (zs.drop (k + 1)) y (R ++ x) = V) := Lib.hid (by rw [← HG.out, HSk.out, if_pos hq])
          have hqi : ¬ (120 : Int) < ((R ++ x).size : Int) := by omega
          have hrs : R.size ≤ 120 := by omega
          go_wp2_with (go_at_call 17; refine (HRC.out _).mono ?_; rintro e w2 ⟨rfl, k2⟩)
          go_roundg (zs.length - (k + 1))
          case measure => omega
          case rel => exact ⟨k + 1, y, R ++ x, by omega, rfl, by go_num, rfl, rfl, hy, hq, HGn, Lib.hid (HK.out.next k2)⟩
        · have HGn : Hid (V = none) := Lib.hid (by rw [← HG.out, HSk.out, if_neg hq])
          have hqi : (120 : Int) < ((R ++ x).size : Int) := by omega
          go_wp2_with (go_at_call 17; refine (HRC.out _).mono ?_; rintro e w2 ⟨rfl, k2⟩)
          go_ret2
          exact ⟨by rw [(HN0.out HGn.out).1, (HN0.out HGn.out).2]; rfl, HK.out.next k2⟩
      · have HE := Lib.hid (show k = zs.length by omega)
        have HV : Hid (V = some y) := Lib.hid (by rw [← HG.out, HE.out, List.drop_length]; rfl)
        go_wp2
        go_ret2
        exact ⟨by rw [(HS0.out y HV.out).1, (HS0.out y HV.out).2]; rfl, HK.out⟩
set_option maxHeartbeats 3200000 in
theorem specStandardWord_any (ad : Option Addr) (cap : Nat) (zs : List Int) (w : World) (hz : Ints w ad zs) :
    Calls Tryd.prog 10 #[.slice ad zs.length cap] w fun e w' => e = .returned (.tuple #[.string (stS zs), .bool (stB zs)]) ∧ Keep w w' := by
  have hlen := hz.small
  by_cases h20n : ¬ zs.length ≤ 20
  · have hok : okTr zs 120 = false := by simp [okTr]; omega
    rw [show stS zs = ByteArray.empty from by unfold stS stO; rw [hok]; rfl, show stB zs = false from by unfold stB stO; rw [hok]; rfl]
    clear hok
    go_enter Tryd.func10, Tryd.ntmps10
    go_wp2
    go_ret2
    exact ⟨rfl, Below.refl _ _⟩
  have h20 : zs.length ≤ 20 := by omega
  clear h20n
  have HV : Hid (stO zs = if trms zs 120 zs.length then stGo (zs.drop 0) ⟨#[98]⟩ ⟨#[97]⟩ else none) := Lib.hid (by unfold stO okTr; rw [decide_eq_true h20, Bool.true_and]; rfl)
  have HST := Lib.hid (stGo_step zs)
  have HRB := Lib.hid (fun (n b : ByteArray) (x : Int) hn hb hx => rep_bd (n := n) (b := b) (x := x) hn hb hx)
  have HNO := Lib.hid (fun k (h : k < zs.length) hf => trms_no (zs := zs) (lim := 120) h hf)
  have HSU := Lib.hid (trms_succ zs 120)
  have HS0 : Hid (∀ v, stO zs = some v → stS zs = v ∧ stB zs = true) := Lib.hid (fun v h => by unfold stS stB; rw [h]; exact ⟨rfl, rfl⟩)
  have HN0 : Hid (stO zs = none → stS zs = ByteArray.empty ∧ stB zs = false) := Lib.hid (fun h => by unfold stS stB; rw [h]; exact ⟨rfl, rfl⟩)
  generalize stS zs = V1 at *
  generalize stB zs = V2 at *
  generalize stO zs = V at *
  obtain ⟨G, hG⟩ : ∃ G, G = stGo (zs.drop 0) ⟨#[98]⟩ ⟨#[97]⟩ := ⟨_, rfl⟩
  rw [← hG] at HV
  have HG0 : Hid (stGo (zs.drop 0) ⟨#[98]⟩ ⟨#[97]⟩ = G) := Lib.hid hG.symm
  clear hG
  have h20i : ¬ (20 : Int) < (zs.length : Int) := by omega
  have h20d : decide ((20 : Int) < (zs.length : Int)) = false := decide_eq_false h20i
  go_enter Tryd.func10, Tryd.ntmps10
  go_wp2
  go_loopg [4, 5, 6, 7, 8, 9] zs.length (fun kk b n i _ _ _ wr => ∃ (k : Nat) (x y : ByteArray), k ≤ zs.length ∧ kk = zs.length - k ∧ i = .int .i64 k ∧ b = .string x ∧ n = .string y ∧ x.size ≤ 120 ∧ y.size ≤ 120 ∧ Hid (stGo (zs.drop k) x y = G) ∧ Hid (trms zs 120 k = true) ∧ wr = w)
  case atStart => exact ⟨0, ⟨#[98]⟩, ⟨#[97]⟩, Nat.zero_le _, rfl, rfl, rfl, rfl, by decide, by decide, HG0, Lib.hid (by simp [trms]), rfl⟩
  case round =>
    obtain ⟨k, x, y, hk, rfl, rfl, rfl, rfl, hx, hy, HG, HA, rfl⟩ := hrel
    by_cases hlt : k < zs.length
    · rcases hz.at_ with h | ⟨b, off, rfl, hb1, hc⟩
      · subst h; simp at hlt
      have hcx := hc k hlt
      have HSk := Lib.hid (HST.out k hlt x y)
      have HNk := Lib.hid (HNO.out k hlt)
      have HAk := Lib.hid (HSU.out k)
      have hki : (k : Int) < (zs.length : Int) := by omega
      clear hc
      generalize zs.getD k 0 = z at *
      have hm : (k = 0 ∧ min (k : Int) 1 = 0) ∨ (1 ≤ k ∧ min (k : Int) 1 = 1) := by omega
      cases ht : trmB k z 120
      · have HF : Hid (V = none) := Lib.hid (by rw [HV.out, HNk.out ht]; rfl)
        rcases hm with ⟨h0, h1⟩ | ⟨h0, h1⟩
        · have HX : Hid (inB z 0 120 = false) := Lib.hid (by unfold trmB at ht; rw [h1] at ht; exact ht)
          have hkb : ((k : Int) == 0) = true := by simp; omega
          have hcx0 : wr.cell? ⟨b, off, none⟩ = some (.int .i64 z) := by have h := hcx; rw [h0] at h; exact h
          clear h1
          go_wp2_with (go_at_call 18; refine (l00In_any _ _ _ _).mono ?_; rw [HX.out]; rintro e w' ⟨rfl, rfl⟩)
          go_ret2
          exact ⟨by rw [(HN0.out HF.out).1, (HN0.out HF.out).2]; rfl, Below.refl _ _⟩
        · have HX : Hid (inB z 1 120 = false) := Lib.hid (by unfold trmB at ht; rw [h1] at ht; exact ht)
          have hkb : ((k : Int) == 0) = false := by simp; omega
          go_wp2_with (go_at_call 18; refine (l00In_any _ _ _ _).mono ?_; rw [HX.out]; rintro e w' ⟨rfl, rfl⟩)
          go_ret2
          exact ⟨by rw [(HN0.out HF.out).1, (HN0.out HF.out).2]; rfl, Below.refl _ _⟩
      · have hzb := trmB_bd ht
        obtain ⟨zn, rfl⟩ : ∃ zn : Nat, z = zn := ⟨z.toNat, by omega⟩
        rw [Int.toNat_natCast] at HSk
        have HAn : Hid (trms zs 120 (k + 1) = true) := Lib.hid (by rw [HAk.out, HA.out, ht]; rfl)
        have hrb := HRB.out y x zn hy hx hzb
        rw [Int.toNat_natCast] at hrb
        obtain ⟨hza, hzb2⟩ := hzb
        obtain ⟨low, hlow, HX, hkb⟩ : ∃ low : Int, (0 ≤ low ∧ low ≤ 1) ∧ Hid (inB zn low 120 = true) ∧ ((low = 0 ∧ ((k : Int) == 0) = true ∧ wr.cell? ⟨b, off, none⟩ = some (.int .i64 zn)) ∨ (low = 1 ∧ ((k : Int) == 0) = false)) := by
          unfold trmB at ht
          rcases hm with ⟨h0, h1⟩ | ⟨h0, h1⟩
          · exact ⟨0, by omega, Lib.hid (by rw [h1] at ht; exact ht), .inl ⟨rfl, by simp; omega, by have h := hcx; rw [h0] at h; exact h⟩⟩
          · exact ⟨1, by omega, Lib.hid (by rw [h1] at ht; exact ht), .inr ⟨rfl, by simp; omega⟩⟩
        clear hm ht HNk HAk
        have HR0 : Hid (repB y 0 = ⟨#[]⟩) := Lib.hid (repB_zero y)
        have HRS : Hid (∀ c, repB y (c + 1) = repB y c ++ y) := Lib.hid (repB_succ y)
        have HRZ : Hid (∀ c, (repB y c).size = y.size * c) := Lib.hid (repB_size y)
        obtain ⟨r1, _, r3⟩ := hrb
        have R3 := Lib.hid r3; clear r3
        rcases hkb with ⟨rfl, hkb, hcx0⟩ | ⟨rfl, hkb⟩
        all_goals
          go_wp2_with (go_at_call 18; refine (l00In_any _ _ _ _).mono ?_; rw [HX.out]; rintro e w' ⟨rfl, rfl⟩)
          obtain ⟨wo, rfl⟩ : ∃ q, q = wr := ⟨wr, rfl⟩
          go_loopg [8, 9] zn (fun kk nx c wq => ∃ c1 : Nat, c1 ≤ zn ∧ kk = zn - c1 ∧ c = .int .i64 c1 ∧ nx = .string (repB y c1) ∧ (repB y c1).size ≤ 240 ∧ wq = wo)
          case atStart => exact ⟨0, Nat.zero_le _, rfl, rfl, by rw [HR0.out], by rw [HR0.out]; decide, rfl⟩
          case round =>
            obtain ⟨c1, hc1, rfl, rfl, rfl, hcs, rfl⟩ := hrel
            by_cases hcz : (c1 : Int) < (zn : Int)
            · by_cases hs : (repB y c1).size ≤ 120
              · have hsi : ((repB y c1).size : Int) ≤ 120 := by omega
                have HRn := Lib.hid (HRS.out c1)
                have hsz : (repB y (c1 + 1)).size ≤ 240 := by rw [HRn.out, ByteArray.size_append]; omega
                generalize repB y c1 = Q at *
                go_wp2
                go_roundg (zn - (c1 + 1))
                case measure => omega
                case rel => exact ⟨c1 + 1, by omega, rfl, by go_num, by rw [HRn.out], hsz, rfl⟩
              · have hsi : ¬ ((repB y c1).size : Int) ≤ 120 := by omega
                have HGn : Hid (G = none) := Lib.hid (by
                  rw [← HG.out, HSk.out, if_neg]
                  rw [R3.out, HRZ.out]
                  have h1 := HRZ.out c1
                  have h2 : y.size * c1 ≤ y.size * zn := Nat.mul_le_mul_left _ (by omega)
                  omega)
                have HF : Hid (V = none) := Lib.hid (by rw [HV.out, HGn.out]; split <;> rfl)
                have hax : (repB y c1 ++ x).size = (repB y c1).size + x.size := ByteArray.size_append ..
                generalize repB y c1 = Q at *
                have hqi : (120 : Int) < ((Q ++ x).size : Int) := by rw [hax]; omega
                have hqj : (120 : Int) < (Q.size : Int) + (x.size : Int) := by omega
                clear hax
                go_wp2
                go_ret2
                exact ⟨by rw [(HN0.out HF.out).1, (HN0.out HF.out).2]; rfl, Below.refl _ _⟩
            · have hce : c1 = zn := by omega
              subst hce
              generalize repB y c1 = R at *
              have hax := R3.out
              have hrr : R.size ≤ 240 := hcs
              by_cases hq : (R ++ x).size ≤ 120
              · have HGn : Hid (stGo (zs.drop (k + 1)) y (R ++ x) = G) := Lib.hid (by rw [← HG.out, HSk.out, if_pos hq])
                have hqi : ¬ (120 : Int) < ((R ++ x).size : Int) := by omega
                have hqj : ¬ (120 : Int) < (R.size : Int) + (x.size : Int) := by omega
                clear hax
                go_wp2
                go_roundg (zs.length - (k + 1))
                case measure => omega
                case rel => exact ⟨k + 1, y, R ++ x, by omega, rfl, by go_num, rfl, rfl, hy, hq, HGn, HAn, rfl⟩
              · have HGn : Hid (G = none) := Lib.hid (by rw [← HG.out, HSk.out, if_neg hq])
                have HF : Hid (V = none) := Lib.hid (by rw [HV.out, HGn.out]; split <;> rfl)
                have hqi : (120 : Int) < ((R ++ x).size : Int) := by omega
                have hqj : (120 : Int) < (R.size : Int) + (x.size : Int) := by omega
                clear hax
                go_wp2
                go_ret2
                exact ⟨by rw [(HN0.out HF.out).1, (HN0.out HF.out).2]; rfl, Below.refl _ _⟩
    · have HE := Lib.hid (show k = zs.length by omega)
      have HVS : Hid (V = some y) := Lib.hid (by rw [HV.out, ← HE.out, HA.out, if_pos rfl, ← HG.out, HE.out, List.drop_length]; rfl)
      have hki : ¬ (k : Int) < (zs.length : Int) := by omega
      go_wp2
      go_ret2
      exact ⟨by rw [(HS0.out y HVS.out).1, (HS0.out y HVS.out).2]; rfl, Below.refl _ _⟩
end Go.Proofs.YtjklmdlkhkmfpaaDoor
