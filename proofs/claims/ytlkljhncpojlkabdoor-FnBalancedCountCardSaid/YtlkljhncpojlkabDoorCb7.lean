/- How many balanced words there are: the program's look. -/
import Derived.Test.YtlkljhncpojlkabDoorBi7
import Derived.Test.YtlkljhncpojlkabDoorCbl7
import Derived.Test.YtlkljhncpojlkabDoorCt7
import Derived.Lib.OthersKept
import Derived.Deep.LoopGhost
import Derived.Deep.AppendLies
namespace Go.Proofs.YtlkljhncpojlkabDoor
open Go.ChangeShapes Go.WideShapes Go.ChangeAt Go.RowKit Go.Deep
set_option linter.unusedVariables false
theorem Tryd.infoS7 : (Tryd.prog.info? 9).map (fun i => (i.zero, i.size, i.bytes)) = some (some (.string ⟨#[]⟩), 1, 16) := by kernel_rfl
theorem prm_N (i k : Nat) : prm i k = (prmN7 i k : Int) := by
  induction k with
  | zero => rfl
  | succ k ih =>
    rw [prm_succ, prmN7, ih]
    have e : Int.gcd ((k : Int) + 1) i = Nat.gcd (k + 1) i := by unfold Int.gcd; congr 1
    rw [e]
    by_cases q : Nat.gcd (k + 1) i = 1
    · rw [if_pos q, q]; simp
    · rw [if_neg q, show Nat.beq (Nat.gcd (k + 1) i) 1 = false from Bool.eq_false_iff.2 (fun h => q (Nat.eq_of_beq_eq_true h))]; simp
theorem cnt_N (n : Nat) : ∀ i, i ≤ n → cnt7 n i = (cntN7 n i : Int) := by
  intro i
  induction i with
  | zero => intro _; rfl
  | succ i ih =>
    intro hi
    rw [cnt7_succ, cntN7, ih (by omega), prm_N]
    rw [Int.natCast_add, Int.natCast_mul]
    congr 2
    omega
theorem cbV_len {n : Nat} (h : n ≤ 20) : cbV n = ((lvlW n).length : Int) := by
  rw [lvlW_count h, ← cnt_N n n (Nat.le_refl _)]
  unfold cbV cbB
  rw [show inB (n : Int) 0 20 = true from inB_iff.2 ⟨by omega, by omega⟩]
  rfl
theorem lvlW_small {n : Nat} (h : n ≤ 20) : (lvlW n).length ≤ 1048576 := by
  have h1 := cbV_len h
  have h2 := cnt7_bd h n (Nat.le_refl _)
  have h3 : cbV n = cnt7 n n := by unfold cbV cbB; rw [show inB (n : Int) 0 20 = true from inB_iff.2 ⟨by omega, by omega⟩]; rfl
  omega
/-! ### slices of words -/
def OwnT (w : World) (B : Nat) (ad : Option Addr) (cap : Nat) (zs : List (List Int)) : Prop :=
  w.ownsRow B 9 1 (.slice ad zs.length cap) zs.length (zs.map fun z => .string (strOfNums z)) ∧ zs.length ≤ 1099511627776
theorem OwnT.kept {w w' : World} {B : Nat} {ad : Option Addr} {cap : Nat} {zs : List (List Int)} (h : OwnT w B ad cap zs) {row : Option Nat} (k : w.grownBy w' row) (hr : ∀ r, ad = some ⟨r, 0, none⟩ → row ≠ some r) : OwnT w' B ad cap zs := by
  refine ⟨h.1.kept k ?_, h.2⟩
  rcases own_block h.1 with ⟨rfl, _⟩ | ⟨g, rfl, _⟩
  · exact .inl rfl
  · right
    have := hr g rfl
    simp only [Value.ownBlock]
    intro e; exact this e.symm
theorem OwnT.keep {w w' : World} {B : Nat} {ad : Option Addr} {cap : Nat} {zs : List (List Int)} (h : OwnT w B ad cap zs) (k : Keep w w') : OwnT w' B ad cap zs :=
  h.kept (row := none) (keep_grown k none) (fun r _ e => by cases e)
theorem grown_iterAt (w : World) (c : Nat) (s : ByteArray) (pos : Nat) : w.grownBy (w.iterAt c s pos) (some c) :=
  ⟨rfl, rfl, rfl, by rw [Lib.iterAt_size]; exact Nat.le_refl _, fun j _ hj => Lib.iterAt_other w c j s pos (fun e => hj (by rw [e]))⟩
theorem OwnT.iterAt {w : World} {B : Nat} {ad : Option Addr} {cap : Nat} {zs : List (List Int)} (h : OwnT w B ad cap zs) {c : Nat} (hc : ∀ k, ad = some ⟨k, 0, none⟩ → k ≠ c) (s : ByteArray) (pos : Nat) : OwnT (w.iterAt c s pos) B ad cap zs :=
  h.kept (grown_iterAt w c s pos) (fun r hr e => hc r hr (by injection e with e; exact e.symm))
theorem OwnT.nil (w : World) (B : Nat) : OwnT w B none 0 [] := ⟨World.ownsRow_nil _ _ _ _, by simp⟩
theorem OwnT.at_ {w : World} {B : Nat} {ad : Option Addr} {cap : Nat} {zs : List (List Int)} (h : OwnT w B ad cap zs) : zs = [] ∨ ∃ b, ad = some ⟨b, 0, none⟩ ∧ b < w.heap.size ∧ B ≤ b ∧ ∀ i, (hi : i < zs.length) → w.cell? ⟨b, i, none⟩ = some (.string (strOfNums zs[i])) := by
  rcases own_block h.1 with ⟨_, h2, _⟩ | ⟨g, rfl, h1, h2, _⟩
  · exact .inl (List.eq_nil_of_length_eq_zero h2)
  · refine .inr ⟨g, rfl, h2, h1, fun i hi => ?_⟩
    rw [h.1.cellAt i (by simpa using hi)]
    simp [hi]
theorem below_ownT {w0 w w' : World} {B lo n cap : Nat} {ad : Option Addr} {zs : List (List Int)} (h : Below B w0 w) (o : OwnT w lo ad cap zs) (m : w.grownBy w' (Value.slice ad n cap).ownBlock) (hB : B ≤ w.heap.size) (hlo : B ≤ lo) : Below B w0 w' := by
  refine h.grown m hB fun k hk => ?_
  rcases own_block o.1 with ⟨rfl, _⟩ | ⟨k2, rfl, h4, _⟩
  · simp [Value.ownBlock] at hk
  · simp [Value.ownBlock] at hk; omega
theorem list_appT {ops : Array Oper} {rest : List Oper} {o : Oper} {a : Act} {w : World} {Q : Exit → Act → World → Prop} (hgd : o.guard = none) (s x : Operand)
    (ho : o.op = .call { callee := .builtin .append, args := #[s, x], argTypes := #[71, 71] })
    (B : Nat) (ad : Option Addr) (cap n : Nat) (zs : List (List Int)) (y : List Int) (hs : a.eval s = .slice ad n cap) (hown : OwnT w B ad cap zs) (hn : n = zs.length) (nb : Nat) (hx : a.eval x = .slice (some ⟨nb, 0, none⟩) 1 1)
    (hc : w.cell? ⟨nb, 0, none⟩ = some (.string (strOfNums y))) (hl : zs.length < 1099511627776) (hB : B ≤ w.heap.size)
    (h : ∀ g cap' w', OwnT w' B (some ⟨g, 0, none⟩) cap' (zs ++ [y]) → w.grownBy w' (Value.slice ad n cap).ownBlock → (ad = some ⟨g, 0, none⟩ ∨ w.heap.size ≤ g) → wpList Tryd.prog ops Q rest (a.put o.dst (.slice (some ⟨g, 0, none⟩) (n + 1) cap')) w') : wpList Tryd.prog ops Q (o :: rest) a w := by
  obtain ⟨i0, hi, hz0, hz1, hz2⟩ := info_parts Tryd.infoS7
  subst hn
  refine wpList_append_lies w hgd s x 71 ho B 9 i0 (.string ⟨#[]⟩) 1 16 Tryd.underlying71 hi hz0 hz1 hz2 rfl (by omega) (.slice ad zs.length cap) zs.length (zs.map fun z => .string (strOfNums z)) hs hown.1 ⟨nb, 0, none⟩ 1 1 [.string (strOfNums y)] hx rfl ?_ ?_ (by omega) (by unfold maxLen; omega) (by omega) hB _ rfl ?_
  · intro j u hj
    match j, hj with
    | 0, hj => simp at hj; subst hj; simpa [Addr.add] using hc
  · intro u hu; simp at hu; subst hu; rfl
  · intro g cap' w' h1 h2 h3 h4
    refine h g cap' w' ⟨?_, by simp; omega⟩ h2 ?_
    · simpa using h1
    · rcases h3 with h3 | h3
      · left
        rcases own_block hown.1 with ⟨rfl, _⟩ | ⟨k2, rfl, _⟩
        · simp [Value.ownBlock] at h3
        · simp [Value.ownBlock] at h3; subst h3; rfl
      · right; omega
theorem str_app1 (w : List Int) : strOfNums w ++ ⟨#[97]⟩ = strOfNums (w ++ [97]) ∧ strOfNums w ++ ⟨#[98]⟩ = strOfNums (w ++ [98]) := by
  constructor
  · apply ByteArray.ext; simp [strOfNums]
  · apply ByteArray.ext; simp [strOfNums]
/-- The words one letter longer than w that are taken, among the first p. -/
def acc7 (w : List Int) (p : Nat) : List (List Int) := ([w ++ [97], w ++ [98]].take p).filter fun v => balB (strOfNums v)
theorem acc7_2 (w : List Int) : acc7 w 2 = grow7 w := rfl
theorem acc7_1 (w : List Int) : acc7 w 1 = acc7 w 0 ++ (if balB (strOfNums (w ++ [97])) then [w ++ [97]] else []) := by
  unfold acc7; simp [List.filter_cons]
theorem acc7_s (w : List Int) : acc7 w 2 = acc7 w 1 ++ (if balB (strOfNums (w ++ [98])) then [w ++ [98]] else []) := by
  unfold acc7; simp only [List.take, List.filter_cons, List.filter_nil]
  cases balB (strOfNums (w ++ [97])) <;> simp
theorem acc7_len (w : List Int) (p : Nat) : (acc7 w p).length ≤ 2 := by
  unfold acc7
  exact Nat.le_trans (List.length_filter_le _ _) (by rw [List.length_take]; simp; omega)
set_option maxHeartbeats 6400000 in
set_option maxRecDepth 100000 in
theorem CountBalanced_any (n : Int) (w : World) (un : In64 n) :
    Calls Tryd.prog 28 #[.int .i64 n] w fun e w' => e = .returned (.tuple #[.int .i64 (cbV n), .bool (cbB n)]) ∧ Keep w w' := by
  cases h1 : cbB n
  · rw [show cbV n = 0 from by unfold cbV; rw [h1]; rfl]
    go_enter Tryd.func28, Tryd.ntmps28
    go_wp2_with (go_at_call 46; refine (within_any _ _ _ _).mono ?_; rw [show inB n 0 20 = false from h1]; rintro e w' ⟨rfl, rfl⟩)
    go_ret2
    exact ⟨rfl, Below.refl _ _⟩
  have hin : inB n 0 20 = true := h1
  have hn := inB_iff.1 hin
  clear h1
  obtain ⟨m, rfl⟩ : ∃ m : Nat, n = m := ⟨n.toNat, by omega⟩
  have hm : m ≤ 20 := by omega
  rw [cbV_len hm]
  have HLV := Lib.hid (fun t (h : t ≤ 20) => lvlW_small h)
  have HLL := Lib.hid (fun t (v : List Int) (h : v ∈ lvlW t) => lvlW_len v h)
  have HLN : Hid (∀ t, lvlW (t + 1) = (lvlW t).flatMap grow7) := Lib.hid (fun t => rfl)
  have HO0 : Hid (OwnT (w.alloc (.cells #[.string ⟨#[]⟩] 9)) w.heap.size (some ⟨w.heap.size, 0, none⟩) 1 (lvlW 0)) := Lib.hid (by
    have := World.ownsRow_lit (base := w.heap.size) (e := 9) (size := 1) w #[.string ⟨#[]⟩] 1 (Nat.le_refl _) (by unfold maxLen; omega) rfl
    refine ⟨?_, by simp [lvlW]⟩
    simpa [lvlW, strOfNums] using this)
  have HK0 : Hid (Keep w (w.alloc (.cells #[.string ⟨#[]⟩] 9))) := Lib.hid (by go_grown)
  have HL0 : Hid ((lvlW 0).length = 1) := Lib.hid rfl
  go_enter Tryd.func28, Tryd.ntmps28
  go_wp2_with (go_at_call 46; refine (within_any _ _ _ _).mono ?_; rw [hin]; rintro e w' ⟨rfl, rfl⟩)
  go_loopg [4, 5, 7, 9, 10, 16] m (fun kk wd _ _ _ _ i wr => ∃ (t : Nat) (ad : Option Addr) (cap : Nat), t ≤ m ∧ kk = m - t ∧ i = .int .i64 t ∧ wd = .slice ad (lvlW t).length cap ∧ Hid (OwnT wr w.heap.size ad cap (lvlW t)) ∧ Hid (Keep w wr))
  case atStart => exact ⟨0, _, 1, Nat.zero_le _, rfl, rfl, by rw [HL0.out], HO0, HK0⟩
  case round =>
    obtain ⟨t, ad, cap, ht, rfl, rfl, rfl, HO, HK⟩ := hrel
    by_cases hlt : t < m
    · have hti : (t : Int) < (m : Int) := by omega
      have HNX := Lib.hid (HLN.out t)
      have HVL := Lib.hid (HLL.out t)
      have hws := HLV.out t (by omega)
      generalize hW0 : lvlW t = W0 at *
      clear hW0
      have HNIL := Lib.hid (fun W => OwnT.nil W w.heap.size)
      go_wp2
      go_loopg [5, 7, 9, 10, 20] W0.length (fun kk lg _ _ _ j wq => ∃ (j1 : Nat) (ad2 : Option Addr) (cap2 : Nat) (L : List (List Int)), j1 ≤ W0.length ∧ kk = W0.length - j1 ∧ j = .int .i64 j1 ∧ lg = .slice ad2 L.length cap2 ∧ L.length ≤ 2 * j1 ∧ Hid (L = (W0.take j1).flatMap grow7) ∧ Hid (OwnT wq w.heap.size ad2 cap2 L) ∧ Hid (OwnT wq w.heap.size ad cap W0) ∧ Hid (∀ k, ad = some ⟨k, 0, none⟩ → ad2 = some ⟨k, 0, none⟩ → False) ∧ Hid (Keep w wq))
      case atStart => exact ⟨0, none, 0, [], Nat.zero_le _, rfl, rfl, rfl, by simp, Lib.hid (by simp), Lib.hid (HNIL.out _), HO, Lib.hid (fun k _ h => by cases h), HK⟩
      case round =>
        obtain ⟨j1, ad2, cap2, L, hj, rfl, rfl, rfl, hLl, HL, HO2, HOW, HSEP, HK2⟩ := hrel
        by_cases hjl : j1 < W0.length
        · have hji : (j1 : Int) < (W0.length : Int) := by omega
          rcases HOW.out.at_ with h | ⟨b, rfl, hb1, hb2, hc⟩
          · rw [h] at hjl; simp at hjl
          have hcx := hc j1 hjl
          have HMEM : Hid (W0[j1] ∈ W0) := Lib.hid (List.getElem_mem hjl)
          have HTK : Hid ((W0.take (j1 + 1)).flatMap grow7 = (W0.take j1).flatMap grow7 ++ grow7 W0[j1]) := Lib.hid (by rw [List.take_succ_eq_append_getElem hjl, List.flatMap_append]; simp)
          clear hc
          generalize W0[j1] = v at *
          have hvl : v.length = t := HVL.out v HMEM.out
          have HB7 := Lib.hid (fun W => IsBalanced_any (strOfNums (v ++ [97])) W (by rw [strOfNums_size]; simp; omega))
          have HB8 := Lib.hid (fun W => IsBalanced_any (strOfNums (v ++ [98])) W (by rw [strOfNums_size]; simp; omega))
          have H97 := Lib.hid (str_app1 v).1
          have H98 := Lib.hid (str_app1 v).2
          have HA1 := Lib.hid (acc7_1 v)
          have HA2 := Lib.hid (acc7_s v)
          have HA0 : Hid (acc7 v 0 = []) := Lib.hid rfl
          have HAG := Lib.hid (acc7_2 v)
          have HAL := Lib.hid (acc7_len v)
          have hT : (strOfNums v).size ≤ 20 := by rw [strOfNums_size]; omega
          generalize balB (strOfNums (v ++ [97])) = B7 at *
          generalize balB (strOfNums (v ++ [98])) = B8 at *
          rw [← H97.out] at HB7
          rw [← H98.out] at HB8
          generalize strOfNums v = T at *
          obtain ⟨wo, rfl⟩ : ∃ x, x = wr := ⟨wr, rfl⟩
          have HIT0 : Hid ((wo.iter ⟨#[97, 98]⟩ 0).heap[wo.heap.size]? = some (.stringIter ⟨#[97, 98]⟩ 0)) := Lib.hid (World.iter_heap wo ⟨#[97, 98]⟩ 0)
          have HKI : Hid (Keep wo (wo.iter ⟨#[97, 98]⟩ 0)) := Lib.hid ((Below.refl _ wo).alloc (Nat.le_refl _) _)
          have hcw : w.heap.size ≤ wo.heap.size := HK2.out.size
          have HO2c : Hid (∀ k, ad2 = some ⟨k, 0, none⟩ → k ≠ wo.heap.size) := Lib.hid (fun k h e => by
            rcases own_block HO2.out.1 with ⟨h2, _⟩ | ⟨g, h2, _, h3, _⟩
            · rw [h2] at h; cases h
            · rw [h2] at h; injection h with h; injection h with h; omega)
          have hbc : b ≠ wo.heap.size := by omega
          go_wp2
          go_loopg [5, 9, 10] 2 (fun kk lg _ _ wz => ∃ (p : Nat) (ad3 : Option Addr) (cap3 : Nat) (L3 : List (List Int)), p ≤ 2 ∧ kk = 2 - p ∧ lg = .slice ad3 L3.length cap3 ∧ L3.length ≤ L.length + 2 ∧ Hid (L3 = L ++ acc7 v p) ∧ Hid (OwnT wz w.heap.size ad3 cap3 L3) ∧ Hid (OwnT wz w.heap.size (some ⟨b, 0, none⟩) cap W0) ∧ Hid (∀ k, ad3 = some ⟨k, 0, none⟩ → k ≠ b ∧ k ≠ wo.heap.size) ∧ Hid (wz.heap[wo.heap.size]? = some (.stringIter ⟨#[97, 98]⟩ p)) ∧ Hid (Keep w wz))
          case atStart => exact ⟨0, ad2, cap2, L, by omega, rfl, rfl, by omega, Lib.hid (by rw [HA0.out]; simp), Lib.hid (HO2.out.keep HKI.out), Lib.hid (HOW.out.keep HKI.out), Lib.hid (fun k h => ⟨fun e => HSEP.out b rfl (by rw [h, e]), HO2c.out k h⟩), HIT0, Lib.hid (HK2.out.next HKI.out)⟩
          case round =>
            clear HIT0 HKI HO2c HSEP HO2 HOW HK2 hb1 hcx
            obtain ⟨p, ad3, cap3, L3, hp, rfl, rfl, hl3, HL3, HO3, HOW, HSP, HIT, HK3⟩ := hrel
            have hcs : wo.heap.size < wr.heap.size := (Array.getElem?_eq_some_iff.1 HIT.out).1
            rcases (show p = 0 ∨ p = 1 ∨ p = 2 by omega) with rfl | rfl | rfl
            · -- the letter a
              have hnx : ∀ ty, (Instr.next (.pointer (some ⟨wo.heap.size, 0, none⟩)) true ty).run Tryd.prog wr = .ok (.tuple #[.bool true, .int .i64 0, .int .i32 97]) (wr.iterAt wo.heap.size ⟨#[97, 98]⟩ 1) := fun ty => Lib.run_next_ascii_at wr wo.heap.size ⟨#[97, 98]⟩ 0 ty HIT.out (by decide) (by decide)
              have henc : Utf8.encode 97 = ⟨#[97]⟩ := by rfl
              have HIT1 := Lib.hid (Lib.iterAt_heap wr wo.heap.size ⟨#[97, 98]⟩ 0 1 HIT.out)
              have HO31 := Lib.hid (HO3.out.iterAt (fun k h => (HSP.out k h).2) ⟨#[97, 98]⟩ 1)
              have HOW1 := Lib.hid (HOW.out.iterAt (fun k h e => hbc (by injection h with h; injection h with h; rw [h]; exact e)) ⟨#[97, 98]⟩ 1)
              have HK31 := Lib.hid (Lib.below_iterAt HK3.out (k := wo.heap.size) hcw ⟨#[97, 98]⟩ 1)
              have hcs1 : wo.heap.size < (wr.iterAt wo.heap.size ⟨#[97, 98]⟩ 1).heap.size := by rw [Lib.iterAt_size]; exact hcs
              clear HIT HO3 HOW HK3 hcs
              cases B7
              · have HAN : Hid (acc7 v 1 = acc7 v 0) := Lib.hid (by rw [HA1.out]; simp)
                go_wp2_with (go_at_call 15; refine (HB7.out _).mono ?_; rintro e w2 ⟨rfl, k2⟩)
                go_roundg (2 - 1)
                case measure => omega
                case rel => exact ⟨1, ad3, cap3, L3, by omega, rfl, rfl, hl3, Lib.hid (by rw [HAN.out]; exact HL3.out), Lib.hid (HO31.out.keep k2), Lib.hid (HOW1.out.keep k2), HSP, Lib.hid ((k2.block _ hcs1).trans HIT1.out), Lib.hid ((show Keep w _ from HK31.out).next k2)⟩
              · have HAN : Hid (acc7 v 1 = acc7 v 0 ++ [v ++ [7 + 90]]) := Lib.hid (by rw [HA1.out]; simp)
                have HLN3 : Hid (L3 ++ [v ++ [7 + 90]] = L ++ acc7 v 1) := Lib.hid (by rw [HAN.out, HL3.out, List.append_assoc])
                have hL3n : L3.length + 1 ≤ L.length + 2 := by
                  have h1 := congrArg List.length HLN3.out
                  have h2 := HAL.out 1
                  rw [List.length_append, List.length_append] at h1
                  simp at h1; omega
                go_wp2_with fail
                refine (HB7.out _).mono ?_
                rintro e w2 ⟨rfl, k2⟩
                have HIT2 := Lib.hid ((k2.block _ hcs1).trans HIT1.out)
                have HO32 := Lib.hid (HO31.out.keep k2)
                have HOW2 := Lib.hid (HOW1.out.keep k2)
                have HK32 : Hid (Keep w w2) := Lib.hid ((show Keep w _ from HK31.out).next k2)
                have hcs2 : wo.heap.size < w2.heap.size := by have := k2.size; omega
                have hws2 : w.heap.size ≤ w2.heap.size := HK32.out.size
                clear HIT1 HO31 HOW1 HK31 hcs1 k2 hnx
                go_wp2_with (refine list_appT (by rfl) _ _ (by rfl) w.heap.size ad3 cap3 L3.length L3 (v ++ [7 + 90]) (by rfl) (HO32.out.keep (by go_grown)) rfl _ (by rfl) (by rw [show ((7 + 90 : Int)) = 97 from rfl, ← H97.out]; simp) (by omega) (by simp; omega) ?_; intro g cap4 w4 hown4 hgr4 hat4; have HO4 := Lib.hid hown4; have HG4 := Lib.hid hgr4; have HAT := Lib.hid hat4; clear hown4 hgr4 hat4)
                go_roundg (2 - 1)
                case measure => omega
                case rel =>
                  have hkA : Keep w2 _ := show Keep w2 (w2.alloc (.cells #[.string (T ++ ⟨#[97]⟩)] 9)) from by go_grown
                  have hne : (Value.slice ad3 L3.length cap3).ownBlock ≠ some wo.heap.size := by
                    rcases own_block HO32.out.1 with ⟨h2, _⟩ | ⟨g2, h2, _⟩
                    · rw [h2]; simp [Value.ownBlock]
                    · have := (HSP.out g2 h2).2; rw [h2]; simp [Value.ownBlock]; omega
                  have hnb : (Value.slice ad3 L3.length cap3).ownBlock ≠ some b := by
                    rcases own_block HO32.out.1 with ⟨h2, _⟩ | ⟨g2, h2, _⟩
                    · rw [h2]; simp [Value.ownBlock]
                    · have := (HSP.out g2 h2).1; rw [h2]; simp [Value.ownBlock]; omega
                  have hsp : g ≠ b ∧ g ≠ wo.heap.size := by
                    rcases HAT.out with h2 | h2
                    · exact HSP.out g h2
                    · have h3 : (w2.alloc (.cells #[.string (T ++ ⟨#[97]⟩)] 9)).heap.size = w2.heap.size + 1 := by simp
                      have hbw : b < w2.heap.size := by
                        rcases own_block HOW2.out.1 with ⟨h4, _⟩ | ⟨g4, h4, _, h5, _⟩
                        · cases h4
                        · injection h4 with h4; injection h4 with h4; omega
                      omega
                  exact ⟨1, some ⟨g, 0, none⟩, cap4, L3 ++ [v ++ [7 + 90]], by omega, rfl, by simp, by simp; omega, HLN3, HO4, Lib.hid ((HOW2.out.keep hkA).kept HG4.out (fun r hr => by injection hr with hr; injection hr with hr; rw [← hr]; exact hnb)), Lib.hid (fun k h => by injection h with h; injection h with h; rw [← h]; exact hsp), Lib.hid ((HG4.out.block _ (by simp; omega) (fun e => hne e.symm)).trans ((hkA.block _ hcs2).trans HIT2.out)), Lib.hid (below_ownT ((show Keep w w2 from HK32.out).next hkA) (HO32.out.keep hkA) HG4.out (by simp; omega) (Nat.le_refl _))⟩
            · -- the letter b
              have hnx : ∀ ty, (Instr.next (.pointer (some ⟨wo.heap.size, 0, none⟩)) true ty).run Tryd.prog wr = .ok (.tuple #[.bool true, .int .i64 1, .int .i32 98]) (wr.iterAt wo.heap.size ⟨#[97, 98]⟩ 2) := fun ty => Lib.run_next_ascii_at wr wo.heap.size ⟨#[97, 98]⟩ 1 ty HIT.out (by decide) (by decide)
              have henc : Utf8.encode 98 = ⟨#[98]⟩ := by rfl
              have HIT1 := Lib.hid (Lib.iterAt_heap wr wo.heap.size ⟨#[97, 98]⟩ 1 2 HIT.out)
              have HO31 := Lib.hid (HO3.out.iterAt (fun k h => (HSP.out k h).2) ⟨#[97, 98]⟩ 2)
              have HOW1 := Lib.hid (HOW.out.iterAt (fun k h e => hbc (by injection h with h; injection h with h; rw [h]; exact e)) ⟨#[97, 98]⟩ 2)
              have HK31 := Lib.hid (Lib.below_iterAt HK3.out (k := wo.heap.size) hcw ⟨#[97, 98]⟩ 2)
              have hcs1 : wo.heap.size < (wr.iterAt wo.heap.size ⟨#[97, 98]⟩ 2).heap.size := by rw [Lib.iterAt_size]; exact hcs
              clear HIT HO3 HOW HK3 hcs
              cases B8
              · have HAN : Hid (acc7 v 2 = acc7 v 1) := Lib.hid (by rw [HA2.out]; simp)
                go_wp2_with (go_at_call 15; refine (HB8.out _).mono ?_; rintro e w2 ⟨rfl, k2⟩)
                go_roundg (2 - 2)
                case measure => omega
                case rel => exact ⟨2, ad3, cap3, L3, by omega, rfl, rfl, hl3, Lib.hid (by rw [HAN.out]; exact HL3.out), Lib.hid (HO31.out.keep k2), Lib.hid (HOW1.out.keep k2), HSP, Lib.hid ((k2.block _ hcs1).trans HIT1.out), Lib.hid ((show Keep w _ from HK31.out).next k2)⟩
              · have HAN : Hid (acc7 v 2 = acc7 v 1 ++ [v ++ [8 + 90]]) := Lib.hid (by rw [HA2.out]; simp)
                have HLN3 : Hid (L3 ++ [v ++ [8 + 90]] = L ++ acc7 v 2) := Lib.hid (by rw [HAN.out, HL3.out, List.append_assoc])
                have hL3n : L3.length + 1 ≤ L.length + 2 := by
                  have h1 := congrArg List.length HLN3.out
                  have h2 := HAL.out 2
                  rw [List.length_append, List.length_append] at h1
                  simp at h1; omega
                go_wp2_with fail
                refine (HB8.out _).mono ?_
                rintro e w2 ⟨rfl, k2⟩
                have HIT2 := Lib.hid ((k2.block _ hcs1).trans HIT1.out)
                have HO32 := Lib.hid (HO31.out.keep k2)
                have HOW2 := Lib.hid (HOW1.out.keep k2)
                have HK32 : Hid (Keep w w2) := Lib.hid ((show Keep w _ from HK31.out).next k2)
                have hcs2 : wo.heap.size < w2.heap.size := by have := k2.size; omega
                have hws2 : w.heap.size ≤ w2.heap.size := HK32.out.size
                clear HIT1 HO31 HOW1 HK31 hcs1 k2 hnx
                go_wp2_with (refine list_appT (by rfl) _ _ (by rfl) w.heap.size ad3 cap3 L3.length L3 (v ++ [8 + 90]) (by rfl) (HO32.out.keep (by go_grown)) rfl _ (by rfl) (by rw [show ((8 + 90 : Int)) = 98 from rfl, ← H98.out]; simp) (by omega) (by simp; omega) ?_; intro g cap4 w4 hown4 hgr4 hat4; have HO4 := Lib.hid hown4; have HG4 := Lib.hid hgr4; have HAT := Lib.hid hat4; clear hown4 hgr4 hat4)
                go_roundg (2 - 2)
                case measure => omega
                case rel =>
                  have hkA : Keep w2 _ := show Keep w2 (w2.alloc (.cells #[.string (T ++ ⟨#[98]⟩)] 9)) from by go_grown
                  have hne : (Value.slice ad3 L3.length cap3).ownBlock ≠ some wo.heap.size := by
                    rcases own_block HO32.out.1 with ⟨h2, _⟩ | ⟨g2, h2, _⟩
                    · rw [h2]; simp [Value.ownBlock]
                    · have := (HSP.out g2 h2).2; rw [h2]; simp [Value.ownBlock]; omega
                  have hnb : (Value.slice ad3 L3.length cap3).ownBlock ≠ some b := by
                    rcases own_block HO32.out.1 with ⟨h2, _⟩ | ⟨g2, h2, _⟩
                    · rw [h2]; simp [Value.ownBlock]
                    · have := (HSP.out g2 h2).1; rw [h2]; simp [Value.ownBlock]; omega
                  have hsp : g ≠ b ∧ g ≠ wo.heap.size := by
                    rcases HAT.out with h2 | h2
                    · exact HSP.out g h2
                    · have h3 : (w2.alloc (.cells #[.string (T ++ ⟨#[98]⟩)] 9)).heap.size = w2.heap.size + 1 := by simp
                      have hbw : b < w2.heap.size := by
                        rcases own_block HOW2.out.1 with ⟨h4, _⟩ | ⟨g4, h4, _, h5, _⟩
                        · cases h4
                        · injection h4 with h4; injection h4 with h4; omega
                      omega
                  exact ⟨2, some ⟨g, 0, none⟩, cap4, L3 ++ [v ++ [8 + 90]], by omega, rfl, by simp, by simp; omega, HLN3, HO4, Lib.hid ((HOW2.out.keep hkA).kept HG4.out (fun r hr => by injection hr with hr; injection hr with hr; rw [← hr]; exact hnb)), Lib.hid (fun k h => by injection h with h; injection h with h; rw [← h]; exact hsp), Lib.hid ((HG4.out.block _ (by simp; omega) (fun e => hne e.symm)).trans ((hkA.block _ hcs2).trans HIT2.out)), Lib.hid (below_ownT ((show Keep w w2 from HK32.out).next hkA) (HO32.out.keep hkA) HG4.out (by simp; omega) (Nat.le_refl _))⟩
            · have hnx : ∀ ty, (Instr.next (.pointer (some ⟨wo.heap.size, 0, none⟩)) true ty).run Tryd.prog wr = _ := fun ty => Lib.run_next_end_at wr wo.heap.size ⟨#[97, 98]⟩ 2 ty HIT.out (by decide)
              go_wp2
              go_roundg (W0.length - (j1 + 1))
              case measure => omega
              case rel => exact ⟨j1 + 1, ad3, cap3, L3, by omega, rfl, by go_num, rfl, by omega, Lib.hid (by rw [HL3.out, HTK.out, HL.out, HAG.out]), HO3, HOW, Lib.hid (fun k h h2 => (HSP.out k h2).1 (by injection h with h; injection h with h; exact h.symm)), HK3⟩
        · have hji : ¬ (j1 : Int) < (W0.length : Int) := by omega
          have HE : Hid (L = lvlW (t + 1)) := Lib.hid (by rw [HNX.out, HL.out, List.take_of_length_le (by omega)])
          go_wp2
          go_roundg (m - (t + 1))
          case measure => omega
          case rel => exact ⟨t + 1, ad2, cap2, by omega, rfl, by go_num, by rw [HE.out], Lib.hid (by rw [← HE.out]; exact HO2.out), HK2⟩
    · have hti : ¬ (t : Int) < (m : Int) := by omega
      have HE := Lib.hid (show t = m by omega)
      have hws := HLV.out t (by omega)
      go_wp2
      go_ret2
      exact ⟨by rw [HE.out]; rfl, HK.out⟩
end Go.Proofs.YtlkljhncpojlkabDoor
