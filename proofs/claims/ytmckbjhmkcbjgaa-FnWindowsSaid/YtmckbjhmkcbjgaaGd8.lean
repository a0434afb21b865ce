/- How far sequences deviate: the model's look and the program's. -/
import Derived.Test.YtmckbjhmkcbjgaaDevI8
import Derived.Test.YtmckbjhmkcbjgaaSqs
import Derived.Deep.RegionHeld3
import Derived.Laws.EntriesVeiled
namespace Go.Proofs.Ytmckbjhmkcbjgaa
open Go.ChangeShapes Go.WideShapes Go.ChangeAt Go.RowKit Go.Deep
set_option linter.unusedVariables false
theorem sqs_step (E : List Int) (k : Nat) (h : k < E.length) : sqs (E.take (k + 1)) = sqs (E.take k) + E.getD k 0 * E.getD k 0 := by
  unfold sqs
  rw [List.take_succ_eq_append_getElem h, List.map_append, List.sum_append, getD_get E k h]
  simp
theorem sqs_bd (M : Int) (hM : 0 ≤ M) (E : List Int) (h : ∀ z ∈ E, -M ≤ z ∧ z ≤ M) : ∀ k, k ≤ E.length → 0 ≤ sqs (E.take k) ∧ sqs (E.take k) ≤ M * M * k := by
  intro k
  induction k with
  | zero => intro _; simp [sqs]
  | succ k ih =>
    intro hk
    have h1 := ih (by omega)
    have h2 := sq_bd8 (h _ (getD_mem E k (by omega)))
    rw [sqs_step E k (by omega), Int.natCast_add, Int.natCast_one, Int.mul_add, Int.mul_one]
    omega
/-- A measure of rows, put together. -/
def foldP (φ : List Int → Int) (ψ : Int → Int → Int) (zss : List (List Int)) : Int := zss.foldl (fun m z => ψ m (φ z)) 0
theorem foldP_step (φ : List Int → Int) (ψ : Int → Int → Int) (zss : List (List Int)) (k : Nat) (h : k < zss.length) : foldP φ ψ (zss.take (k + 1)) = ψ (foldP φ ψ (zss.take k)) (φ (zss.getD k [])) := by
  unfold foldP
  rw [List.take_succ_eq_append_getElem h, List.foldl_append, getDD_get zss k h]; rfl
theorem devs_row {d l : List Int} (h : seqO d l = true) {k : Nat} (hk : k < l.length) : ((devs d l l.length).getD k []).length ≤ 6 ∧ ∀ z ∈ (devs d l l.length).getD k [], -9600 ≤ z ∧ z ≤ 9600 := by
  rw [devs_get d l l.length k hk, devF_len]
  exact ⟨(okD_parts (seqO_parts h).1).2.1, devs_in h hk⟩
theorem gr_full (M : Int) (hM : 0 ≤ M) (E : List Int) (h : ∀ z ∈ E, -M ≤ z ∧ z ≤ M) : 0 ≤ gr E ∧ gr E ≤ M := by
  have := gr_bd M hM E h E.length (Nat.le_refl _)
  rw [List.take_length] at this; exact this
theorem sqs_full (E : List Int) (hl : E.length ≤ 6) (h : ∀ z ∈ E, -9600 ≤ z ∧ z ≤ 9600) : 0 ≤ sqs E ∧ sqs E ≤ 552960000 := by
  have := sqs_bd 9600 (by omega) E h E.length (Nat.le_refl _)
  rw [List.take_length] at this
  omega
theorem foldGr_bd {d l : List Int} (h : seqO d l = true) : ∀ k, k ≤ l.length → 0 ≤ foldP gr mx ((devs d l l.length).take k) ∧ foldP gr mx ((devs d l l.length).take k) ≤ 9600 := by
  intro k
  induction k with
  | zero => intro _; simp [foldP]
  | succ k ih =>
    intro hk
    rw [foldP_step _ _ _ k (by rw [devs_len]; omega)]
    exact mx_bd (ih (by omega)) (gr_full 9600 (by omega) _ (devs_row h (by omega)).2)
theorem foldSq_bd {d l : List Int} (h : seqO d l = true) : ∀ k, k ≤ l.length → 0 ≤ foldP sqs (· + ·) ((devs d l l.length).take k) ∧ foldP sqs (· + ·) ((devs d l l.length).take k) ≤ 552960000 * (k : Int) := by
  intro k
  induction k with
  | zero => intro _; simp [foldP]
  | succ k ih =>
    intro hk
    rw [foldP_step _ _ _ k (by rw [devs_len]; omega)]
    have h1 := ih (by omega)
    have h2 := devs_row h (show k < l.length by omega)
    have h3 := sqs_full _ h2.1 h2.2
    show 0 ≤ foldP sqs (· + ·) ((devs d l l.length).take k) + sqs _ ∧ foldP sqs (· + ·) ((devs d l l.length).take k) + sqs _ ≤ _
    omega
/-- The greatest deviation; the sum of squares. -/
def gdV (d l : List Int) : Int := foldP gr mx (devV d l)
def sdV (d l : List Int) : Int := foldP sqs (· + ·) (devV d l)
theorem grClose_any (ad : Option Addr) (cap : Nat) (E : List Int) (w : World) (hz : Ints w ad E) (hl : E.length ≤ 6) (hb : ∀ z ∈ E, -9600 ≤ z ∧ z ≤ 9600) :
    Calls Try.prog 90 #[.slice ad E.length cap] w fun e w' => e = .returned (.int .i64 (gr E)) ∧ Keep w w' := by
  have hok : listOk E 1000000000 = true := by
    unfold listOk allIn
    simp only [Bool.and_eq_true, decide_eq_true_eq, List.all_eq_true]
    exact ⟨by omega, fun z hz => inB_iff.2 (by have := hb z hz; omega)⟩
  have HG := Lib.hid (GreatestOf_any ad cap E w hz)
  rw [hok, show grV E = gr E from by simp [grV, hok]] at HG
  generalize gr E = g at *
  go_enter Try.func90, Try.ntmps90
  go_wp2_with (go_at_call 85; refine HG.out.mono ?_; rintro e w1 ⟨rfl, k1⟩)
  go_ret
  exact ⟨rfl, k1⟩
theorem grJoin_any (a b : Int) (w : World) :
    Calls Try.prog 91 #[.int .i64 a, .int .i64 b] w fun e w' => e = .returned (.int .i64 (mx a b)) ∧ Keep w w' := by
  go_enter Try.func91, Try.ntmps91
  go_wp2
  all_goals go_ret
  all_goals exact ⟨ret_i64 (by unfold mx; split <;> omega), Below.refl _ _⟩
theorem sqJoin_any (a b : Int) (w : World) (ha : 0 ≤ a ∧ a ≤ 1000000000000) (hb : 0 ≤ b ∧ b ≤ 1000000000000) :
    Calls Try.prog 89 #[.int .i64 a, .int .i64 b] w fun e w' => e = .returned (.int .i64 (a + b)) ∧ Keep w w' := by
  go_enter Try.func89, Try.ntmps89
  go_wp2
  go_ret
  exact ⟨rfl, Below.refl _ _⟩
set_option maxHeartbeats 1600000 in
theorem ofGr_any (φ : List Int → Int) (ψ : Int → Int → Int) (ad : Option Addr) (cap : Nat) (d : List Int) (bd : Option Addr) (bcap : Nat) (l : List Int) (w : World) (hz : Ints w ad d) (hl : Ints w bd l)
    (h1 : ∀ W p c E, Ints W p E → E.length ≤ 6 → (∀ z ∈ E, -9600 ≤ z ∧ z ≤ 9600) → Calls Try.prog 90 #[.slice p E.length c] W fun e w' => e = .returned (.int .i64 (φ E)) ∧ Keep W w')
    (h2 : ∀ W a b, (0 ≤ a ∧ a ≤ 1000000000000) → (0 ≤ b ∧ b ≤ 1000000000000) → Calls Try.prog 91 #[.int .i64 a, .int .i64 b] W fun e w' => e = .returned (.int .i64 (ψ a b)) ∧ Keep W w')
    (hb : seqO d l = true → ∀ k, k ≤ l.length → 0 ≤ foldP φ ψ ((devs d l l.length).take k) ∧ foldP φ ψ ((devs d l l.length).take k) ≤ 1000000000000)
    (hφ : ∀ E : List Int, E.length ≤ 6 → (∀ z ∈ E, -9600 ≤ z ∧ z ≤ 9600) → 0 ≤ φ E ∧ φ E ≤ 1000000000000) :
    Calls Try.prog 56 #[.agg #[.func (.func 90) #[] #[], .func (.func 91) #[] #[]], .slice ad d.length cap, .slice bd l.length bcap] w fun e w' => e = .returned (.tuple #[.int .i64 (foldP φ ψ (devV d l)), .bool (seqO d l)]) ∧ Keep w w' := by
  have HDEV := Lib.hid (fun W (k : Keep w W) => DeviationsOf_any ad cap d bd bcap l W (hz.keep k (Nat.le_refl _)) (hl.keep k (Nat.le_refl _)))
  have HL := Lib.hid (show devV d l = [] ∨ (seqO d l = true ∧ devV d l = devs d l l.length) from by
    cases hq : seqO d l
    · exact .inl (by unfold devV; rw [hq]; rfl)
    · exact .inr ⟨rfl, by unfold devV; rw [hq]; rfl⟩)
  have HDL := Lib.hid (show (devV d l).length ≤ 240 from by
    rcases HL.out with h | ⟨h, h2⟩
    · rw [h]; simp
    · rw [h2, devs_len]; exact (seqO_len h).2)
  have HROW := Lib.hid (show ∀ k, k < (devV d l).length → ((devV d l).getD k []).length ≤ 6 ∧ ∀ z ∈ (devV d l).getD k [], -9600 ≤ z ∧ z ≤ 9600 from by
    intro k hk
    rcases HL.out with h | ⟨h, h2⟩
    · rw [h] at hk; simp at hk
    · rw [h2] at hk ⊢; rw [devs_len] at hk; exact devs_row h hk)
  have HFB := Lib.hid (show ∀ k, k ≤ (devV d l).length → 0 ≤ foldP φ ψ ((devV d l).take k) ∧ foldP φ ψ ((devV d l).take k) ≤ 1000000000000 from by
    intro k hk
    rcases HL.out with h | ⟨h, h2⟩
    · rw [h]; simp [foldP]
    · rw [h2] at hk ⊢; rw [devs_len] at hk; exact hb h k hk)
  have HFS := Lib.hid (foldP_step φ ψ (devV d l))
  have H1 := Lib.hid h1
  have H2 := Lib.hid h2
  have HP := Lib.hid hφ
  clear h1 h2 hφ hb HL
  generalize devV d l = E at *
  generalize seqO d l = B at *
  have c0 : (w.alloc (.cells #[.func (.func 90) #[] #[], .func (.func 91) #[] #[]] 62)).cell? ⟨w.heap.size, 0, none⟩ = some (.func (.func 90) #[] #[]) := by simp
  have c1 : (w.alloc (.cells #[.func (.func 90) #[] #[], .func (.func 91) #[] #[]] 62)).cell? ⟨w.heap.size, 1, none⟩ = some (.func (.func 91) #[] #[]) := by simp
  have k0 : Keep w (w.alloc (.cells #[.func (.func 90) #[] #[], .func (.func 91) #[] #[]] 62)) := by go_grown
  have hs0 : w.heap.size < (w.alloc (.cells #[.func (.func 90) #[] #[], .func (.func 91) #[] #[]] 62)).heap.size := by simp
  go_enter Try.func56, Try.ntmps56
  go_wp2_with fail
  refine (HDEV.out _ k0).mono ?_
  generalize w.alloc (.cells #[.func (.func 90) #[] #[], .func (.func 91) #[] #[]] 62) = W0 at *
  rintro e w1 ⟨rd, rc, rA, rC, rfl, o1, k1⟩
  have I1 := Lib.hid o1.ints
  have HC : Hid (∀ W, Keep w1 W → W.cell? ⟨w.heap.size, 0, none⟩ = some (.func (.func 90) #[] #[]) ∧ W.cell? ⟨w.heap.size, 1, none⟩ = some (.func (.func 91) #[] #[])) := Lib.hid (fun W k => by
    have k2 := Keep.next k1 k
    exact ⟨(k2.cell (p := ⟨w.heap.size, 0, none⟩) (by exact hs0)).trans c0, (k2.cell (p := ⟨w.heap.size, 1, none⟩) (by exact hs0)).trans c1⟩)
  have K1 : Hid (Keep w w1) := Lib.hid (Keep.next k0 k1)
  clear c0 c1 k0 hs0 o1 k1
  have hEl := HDL.out
  have hEs := I1.out.small
  go_wp2
  go_loopw [10, 12, 21] (fun v _ i wr => ∃ k : Nat, k ≤ E.length ∧ i = .int .i64 k ∧ v = .int .i64 (foldP φ ψ (E.take k)) ∧ Hid (Keep w1 wr)) (fun _ _ i _ => E.length - (intOf i).toNat)
  case atStart => exact ⟨0, Nat.zero_le _, rfl, rfl, Lib.hid (Below.refl _ _)⟩
  case round =>
    obtain ⟨k, hk, rfl, rfl, HK⟩ := hrel
    by_cases hlt : k < E.length
    · rcases (I1.out.keep HK.out (Nat.le_refl _)).at_ with h | ⟨b, off, rfl, hb1, hc⟩
      · subst h; simp at hlt
      obtain ⟨p, c, hcx, hpc, hin⟩ := hc k hlt
      have hrow := HROW.out k hlt
      have hfb := HFB.out k (by omega)
      have HS := Lib.hid (HFS.out k hlt)
      have HIN := Lib.hid hin
      clear hc hin
      generalize E.getD k [] = z at hcx hpc hrow HS HIN
      have hph := HP.out z hrow.1 hrow.2
      have HA : Hid (∀ W, Keep wr W → Calls Try.prog 90 #[.slice p z.length c] W fun e w' => e = .returned (.int .i64 (φ z)) ∧ Keep W w') := Lib.hid (fun W kk => H1.out W p c z (HIN.out.keep kk (Nat.le_refl _)) hrow.1 hrow.2)
      generalize foldP φ ψ (E.take k) = m at *
      have HB : Hid (∀ W, Calls Try.prog 91 #[.int .i64 m, .int .i64 (φ z)] W fun e w' => e = .returned (.int .i64 (ψ m (φ z))) ∧ Keep W w') := Lib.hid (fun W => H2.out W m (φ z) hfb hph)
      have hzl := hrow.1
      generalize φ z = q at *
      have HD : Hid (∀ W, Keep wr W → (W.cell? ⟨w.heap.size, 0, none⟩ = some (.func (.func 90) #[] #[]) ∧ W.cell? ⟨w.heap.size, 1, none⟩ = some (.func (.func 91) #[] #[])) ∧ Keep wr W) := Lib.hid (fun W kk => ⟨HC.out W (Keep.next HK.out kk), kk⟩)
      clear hrow
      go_wp2_with fail
      go_region_held3 (fun W => (W.cell? ⟨w.heap.size, 0, none⟩ = some (.func (.func 90) #[] #[]) ∧ W.cell? ⟨w.heap.size, 1, none⟩ = some (.func (.func 91) #[] #[])) ∧ Keep wr W)
        (first | exact HD.out _ (Keep.next (Keep.next (by go_grown) k7) k8) | exact HD.out _ (Keep.next (by go_grown) k7) | exact HD.out _ (by go_grown))
        (first | (go_at_call 90; refine (HA.out _ (by go_grown)).mono ?_; rintro e w7 ⟨rfl, k7⟩) | (go_at_call 91; refine (HB.out _).mono ?_; rintro e w8 ⟨rfl, k8⟩))
      go_wp2
      go_roundw
      case rel => exact ⟨k + 1, by omega, by go_num, by rw [HS.out], Lib.hid (HK.out.next (Keep.next (Keep.next (by go_grown) k7) k8))⟩
      case measure => simp [intOf]; omega
    · have he := Lib.hid (show k = E.length by omega)
      go_wp2
      go_ret2
      have e := he.out
      subst e
      exact ⟨congrArg (fun x => Ending.returned (Value.tuple #[.int .i64 (foldP φ ψ x), .bool B])) List.take_length, K1.out.next HK.out⟩
set_option maxHeartbeats 1600000 in
theorem ofSq_any (φ : List Int → Int) (ψ : Int → Int → Int) (ad : Option Addr) (cap : Nat) (d : List Int) (bd : Option Addr) (bcap : Nat) (l : List Int) (w : World) (hz : Ints w ad d) (hl : Ints w bd l)
    (h1 : ∀ W p c E, Ints W p E → E.length ≤ 6 → (∀ z ∈ E, -9600 ≤ z ∧ z ≤ 9600) → Calls Try.prog 84 #[.slice p E.length c] W fun e w' => e = .returned (.int .i64 (φ E)) ∧ Keep W w')
    (h2 : ∀ W a b, (0 ≤ a ∧ a ≤ 1000000000000) → (0 ≤ b ∧ b ≤ 1000000000000) → Calls Try.prog 89 #[.int .i64 a, .int .i64 b] W fun e w' => e = .returned (.int .i64 (ψ a b)) ∧ Keep W w')
    (hb : seqO d l = true → ∀ k, k ≤ l.length → 0 ≤ foldP φ ψ ((devs d l l.length).take k) ∧ foldP φ ψ ((devs d l l.length).take k) ≤ 1000000000000)
    (hφ : ∀ E : List Int, E.length ≤ 6 → (∀ z ∈ E, -9600 ≤ z ∧ z ≤ 9600) → 0 ≤ φ E ∧ φ E ≤ 1000000000000) :
    Calls Try.prog 56 #[.agg #[.func (.func 84) #[] #[], .func (.func 89) #[] #[]], .slice ad d.length cap, .slice bd l.length bcap] w fun e w' => e = .returned (.tuple #[.int .i64 (foldP φ ψ (devV d l)), .bool (seqO d l)]) ∧ Keep w w' := by
  have HDEV := Lib.hid (fun W (k : Keep w W) => DeviationsOf_any ad cap d bd bcap l W (hz.keep k (Nat.le_refl _)) (hl.keep k (Nat.le_refl _)))
  have HL := Lib.hid (show devV d l = [] ∨ (seqO d l = true ∧ devV d l = devs d l l.length) from by
    cases hq : seqO d l
    · exact .inl (by unfold devV; rw [hq]; rfl)
    · exact .inr ⟨rfl, by unfold devV; rw [hq]; rfl⟩)
  have HDL := Lib.hid (show (devV d l).length ≤ 240 from by
    rcases HL.out with h | ⟨h, h2⟩
    · rw [h]; simp
    · rw [h2, devs_len]; exact (seqO_len h).2)
  have HROW := Lib.hid (show ∀ k, k < (devV d l).length → ((devV d l).getD k []).length ≤ 6 ∧ ∀ z ∈ (devV d l).getD k [], -9600 ≤ z ∧ z ≤ 9600 from by
    intro k hk
    rcases HL.out with h | ⟨h, h2⟩
    · rw [h] at hk; simp at hk
    · rw [h2] at hk ⊢; rw [devs_len] at hk; exact devs_row h hk)
  have HFB := Lib.hid (show ∀ k, k ≤ (devV d l).length → 0 ≤ foldP φ ψ ((devV d l).take k) ∧ foldP φ ψ ((devV d l).take k) ≤ 1000000000000 from by
    intro k hk
    rcases HL.out with h | ⟨h, h2⟩
    · rw [h]; simp [foldP]
    · rw [h2] at hk ⊢; rw [devs_len] at hk; exact hb h k hk)
  have HFS := Lib.hid (foldP_step φ ψ (devV d l))
  have H1 := Lib.hid h1
  have H2 := Lib.hid h2
  have HP := Lib.hid hφ
  clear h1 h2 hφ hb HL
  generalize devV d l = E at *
  generalize seqO d l = B at *
  have c0 : (w.alloc (.cells #[.func (.func 84) #[] #[], .func (.func 89) #[] #[]] 62)).cell? ⟨w.heap.size, 0, none⟩ = some (.func (.func 84) #[] #[]) := by simp
  have c1 : (w.alloc (.cells #[.func (.func 84) #[] #[], .func (.func 89) #[] #[]] 62)).cell? ⟨w.heap.size, 1, none⟩ = some (.func (.func 89) #[] #[]) := by simp
  have k0 : Keep w (w.alloc (.cells #[.func (.func 84) #[] #[], .func (.func 89) #[] #[]] 62)) := by go_grown
  have hs0 : w.heap.size < (w.alloc (.cells #[.func (.func 84) #[] #[], .func (.func 89) #[] #[]] 62)).heap.size := by simp
  go_enter Try.func56, Try.ntmps56
  go_wp2_with fail
  refine (HDEV.out _ k0).mono ?_
  generalize w.alloc (.cells #[.func (.func 84) #[] #[], .func (.func 89) #[] #[]] 62) = W0 at *
  rintro e w1 ⟨rd, rc, rA, rC, rfl, o1, k1⟩
  have I1 := Lib.hid o1.ints
  have HC : Hid (∀ W, Keep w1 W → W.cell? ⟨w.heap.size, 0, none⟩ = some (.func (.func 84) #[] #[]) ∧ W.cell? ⟨w.heap.size, 1, none⟩ = some (.func (.func 89) #[] #[])) := Lib.hid (fun W k => by
    have k2 := Keep.next k1 k
    exact ⟨(k2.cell (p := ⟨w.heap.size, 0, none⟩) (by exact hs0)).trans c0, (k2.cell (p := ⟨w.heap.size, 1, none⟩) (by exact hs0)).trans c1⟩)
  have K1 : Hid (Keep w w1) := Lib.hid (Keep.next k0 k1)
  clear c0 c1 k0 hs0 o1 k1
  have hEl := HDL.out
  have hEs := I1.out.small
  go_wp2
  go_loopw [10, 12, 21] (fun v _ i wr => ∃ k : Nat, k ≤ E.length ∧ i = .int .i64 k ∧ v = .int .i64 (foldP φ ψ (E.take k)) ∧ Hid (Keep w1 wr)) (fun _ _ i _ => E.length - (intOf i).toNat)
  case atStart => exact ⟨0, Nat.zero_le _, rfl, rfl, Lib.hid (Below.refl _ _)⟩
  case round =>
    obtain ⟨k, hk, rfl, rfl, HK⟩ := hrel
    by_cases hlt : k < E.length
    · rcases (I1.out.keep HK.out (Nat.le_refl _)).at_ with h | ⟨b, off, rfl, hb1, hc⟩
      · subst h; simp at hlt
      obtain ⟨p, c, hcx, hpc, hin⟩ := hc k hlt
      have hrow := HROW.out k hlt
      have hfb := HFB.out k (by omega)
      have HS := Lib.hid (HFS.out k hlt)
      have HIN := Lib.hid hin
      clear hc hin
      generalize E.getD k [] = z at hcx hpc hrow HS HIN
      have hph := HP.out z hrow.1 hrow.2
      have HA : Hid (∀ W, Keep wr W → Calls Try.prog 84 #[.slice p z.length c] W fun e w' => e = .returned (.int .i64 (φ z)) ∧ Keep W w') := Lib.hid (fun W kk => H1.out W p c z (HIN.out.keep kk (Nat.le_refl _)) hrow.1 hrow.2)
      generalize foldP φ ψ (E.take k) = m at *
      have HB : Hid (∀ W, Calls Try.prog 89 #[.int .i64 m, .int .i64 (φ z)] W fun e w' => e = .returned (.int .i64 (ψ m (φ z))) ∧ Keep W w') := Lib.hid (fun W => H2.out W m (φ z) hfb hph)
      have hzl := hrow.1
      generalize φ z = q at *
      have HD : Hid (∀ W, Keep wr W → (W.cell? ⟨w.heap.size, 0, none⟩ = some (.func (.func 84) #[] #[]) ∧ W.cell? ⟨w.heap.size, 1, none⟩ = some (.func (.func 89) #[] #[])) ∧ Keep wr W) := Lib.hid (fun W kk => ⟨HC.out W (Keep.next HK.out kk), kk⟩)
      clear hrow
      go_wp2_with fail
      go_region_held3 (fun W => (W.cell? ⟨w.heap.size, 0, none⟩ = some (.func (.func 84) #[] #[]) ∧ W.cell? ⟨w.heap.size, 1, none⟩ = some (.func (.func 89) #[] #[])) ∧ Keep wr W)
        (first | exact HD.out _ (Keep.next (Keep.next (by go_grown) k7) k8) | exact HD.out _ (Keep.next (by go_grown) k7) | exact HD.out _ (by go_grown))
        (first | (go_at_call 84; refine (HA.out _ (by go_grown)).mono ?_; rintro e w7 ⟨rfl, k7⟩) | (go_at_call 89; refine (HB.out _).mono ?_; rintro e w8 ⟨rfl, k8⟩))
      go_wp2
      go_roundw
      case rel => exact ⟨k + 1, by omega, by go_num, by rw [HS.out], Lib.hid (HK.out.next (Keep.next (Keep.next (by go_grown) k7) k8))⟩
      case measure => simp [intOf]; omega
    · have he := Lib.hid (show k = E.length by omega)
      go_wp2
      go_ret2
      have e := he.out
      subst e
      exact ⟨congrArg (fun x => Ending.returned (Value.tuple #[.int .i64 (foldP φ ψ x), .bool B])) List.take_length, K1.out.next HK.out⟩
theorem byGreatest_any (w : World) : Calls Try.prog 60 #[] w fun e w' => e = .returned (.agg #[.func (.func 90) #[] #[], .func (.func 91) #[] #[]]) ∧ Keep w w' := by
  go_enter Try.func60, Try.ntmps60
  go_wp2
  refine bodyPost_ret (v := .agg #[.func (.func 90) #[] #[], .func (.func 91) #[] #[]]) (by simp [results, Try.results60, go_sem]) rfl ?_
  exact ⟨rfl, by go_grown⟩
theorem bySquares_any (w : World) : Calls Try.prog 55 #[] w fun e w' => e = .returned (.agg #[.func (.func 84) #[] #[], .func (.func 89) #[] #[]]) ∧ Keep w w' := by
  go_enter Try.func55, Try.ntmps55
  go_wp2
  refine bodyPost_ret (v := .agg #[.func (.func 84) #[] #[], .func (.func 89) #[] #[]]) (by simp [results, Try.results55, go_sem]) rfl ?_
  exact ⟨rfl, by go_grown⟩
theorem GreatestDeviation_any (ad : Option Addr) (cap : Nat) (d : List Int) (bd : Option Addr) (bcap : Nat) (l : List Int) (w : World) (hz : Ints w ad d) (hl : Ints w bd l) :
    Calls Try.prog 23 #[.slice ad d.length cap, .slice bd l.length bcap] w fun e w' => e = .returned (.tuple #[.int .i64 (gdV d l), .bool (seqO d l)]) ∧ Keep w w' := by
  have HO := Lib.hid (fun W (k : Keep w W) => ofGr_any gr mx ad cap d bd bcap l W (hz.keep k (Nat.le_refl _)) (hl.keep k (Nat.le_refl _)) (fun W p c E h1 h2 h3 => grClose_any p c E W h1 h2 h3) (fun W a b _ _ => grJoin_any a b W)
    (fun hq k hk => by have := foldGr_bd hq k hk; omega) (fun E h1 h2 => by have := gr_full 9600 (by omega) E h2; omega))
  have HV : Hid (foldP gr mx (devV d l) = gdV d l) := Lib.hid rfl
  rw [HV.out] at HO
  generalize gdV d l = V at *
  generalize seqO d l = B at *
  go_enter Try.func23, Try.ntmps23
  go_wp2_with (first | (go_at_call 60; refine (byGreatest_any _).mono ?_; rintro e w1 ⟨rfl, k1⟩) | (go_at_call 56; refine (HO.out _ k1).mono ?_; rintro e w2 ⟨rfl, k2⟩))
  go_ret2
  exact ⟨rfl, Keep.next k1 k2⟩
theorem SquareDeviation_any (ad : Option Addr) (cap : Nat) (d : List Int) (bd : Option Addr) (bcap : Nat) (l : List Int) (w : World) (hz : Ints w ad d) (hl : Ints w bd l) :
    Calls Try.prog 19 #[.slice ad d.length cap, .slice bd l.length bcap] w fun e w' => e = .returned (.tuple #[.int .i64 (sdV d l), .bool (seqO d l)]) ∧ Keep w w' := by
  have HO := Lib.hid (fun W (k : Keep w W) => ofSq_any sqs (· + ·) ad cap d bd bcap l W (hz.keep k (Nat.le_refl _)) (hl.keep k (Nat.le_refl _)) (fun W p c E h1 h2 h3 => squareSum_any p c E W h1 (fun z hz => by have := h3 z hz; omega) (by omega)) (fun W a b ha hb => sqJoin_any a b W ha hb)
    (fun hq k hk => by have := foldSq_bd hq k hk; have := (seqO_len hq).2; omega) (fun E h1 h2 => by have := sqs_full E h1 h2; omega))
  have HV : Hid (foldP sqs (· + ·) (devV d l) = sdV d l) := Lib.hid rfl
  rw [HV.out] at HO
  generalize sdV d l = V at *
  generalize seqO d l = B at *
  go_enter Try.func19, Try.ntmps19
  go_wp2_with (first | (go_at_call 55; refine (bySquares_any _).mono ?_; rintro e w1 ⟨rfl, k1⟩) | (go_at_call 56; refine (HO.out _ k1).mono ?_; rintro e w2 ⟨rfl, k2⟩))
  go_ret2
  exact ⟨rfl, Keep.next k1 k2⟩
end Go.Proofs.Ytmckbjhmkcbjgaa
