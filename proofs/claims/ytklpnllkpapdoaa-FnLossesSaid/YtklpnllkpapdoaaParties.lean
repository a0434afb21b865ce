/- The parties by the rests of their quotas: sort.Slice with a closure. -/
import Derived.Test.YtklpnllkpapdoaaRem
import Derived.Test.YtklpnllkpapdoaaShelf
import Derived.Deep.QuietTactic
import Derived.Shelf.GgSortFunc.Small
import Derived.Shelf.GgSortFunc.Tiny
import Derived.Lib.OwnBridge
import Derived.Lib.AppendIntMem
namespace Go.Proofs.Ytklpnllkpapdoaa
open Go.ChangeShapes Go.WideShapes Go.ChangeAt Go.RowKit
set_option linter.unusedVariables false
theorem Try.infoSI : (Try.prog.info? 50).map (fun i => i.desc) = some (.slice 3) := by kernel_rfl
theorem Try.infoN : (Try.prog.info? 3).map (fun i => (i.zero, i.size, i.bytes, i.hasPointers)) = some (some (.int .i64 0), 1, 8, false) := by kernel_rfl
theorem infoN_parts : ∃ i, Try.prog.info? 3 = some i ∧ i.zero = some (.int .i64 0) ∧ i.size = 1 ∧ i.bytes = 8 ∧ i.hasPointers = false := by
  have h := Try.infoN
  cases e : Try.prog.info? 3 with
  | none => rw [e] at h; cases h
  | some i => rw [e] at h; simp at h; exact ⟨i, rfl, h.1, h.2.1, h.2.2.1, h.2.2.2⟩
theorem infoSI_parts : ∃ i, Try.prog.info? 50 = some i ∧ i.desc = .slice 3 := by
  have h := Try.infoSI
  cases e : Try.prog.info? 50 with
  | none => rw [e] at h; cases h
  | some i => rw [e] at h; exact ⟨i, rfl, by simpa using h⟩
set_option maxHeartbeats 1600000 in
/-- The closure: does one party of the list come before another one? -/
theorem restLess_any (n b0 b1 b2 b3 c0 c2 : Nat) (R : List Int) (G : Nat → Nat) (W : World) (hs2 : W.cell? ⟨b3, 0, none⟩ = some (.slice (some ⟨b2, 0, none⟩) n c2)) (hs3 : W.cell? ⟨b1, 0, none⟩ = some (.slice (some ⟨b0, 0, none⟩) n c0))
    (hc : ∀ t, t < n → W.cell? ⟨b2, t, none⟩ = some (.int .i64 (G t))) (hG : ∀ t, t < n → G t < n) (hr : ∀ t, t < n → W.cell? ⟨b0, t, none⟩ = some (.int .i64 (R.getD t 0))) (i j : Nat) (hi : i < n) (hj : j < n) (hn : n ≤ 12) :
    Calls Try.prog 47 #[.int .i64 i, .int .i64 j, .pointer (some ⟨b3, 0, none⟩), .pointer (some ⟨b1, 0, none⟩)] W fun e w' => e = .returned (.bool (bef R (G i) (G j))) ∧ ∃ q, w' = W.drewN q := by
  have ci := hc i hi
  have cj := hc j hj
  have ga := hG i hi
  have gb := hG j hj
  have hB : ∀ a b, bef R a b = (decide (R.getD b 0 < R.getD a 0) || (decide (R.getD a 0 = R.getD b 0) && decide (a < b))) := fun a b => rfl
  rw [hB]
  clear hc hG hB
  generalize G i = a at *
  generalize G j = b at *
  have ra := hr a ga
  have rb := hr b gb
  clear hr
  generalize R.getD a 0 = x at *
  generalize R.getD b 0 = y at *
  go_enter Try.func47, Try.ntmps47
  go_wp2
  go_quiet (fail)
  rcases Int.lt_trichotomy x y with h | h | h
  · have h1 : ¬ y < x := by omega
    have h2 : (x == y) = false := by simp; omega
    have h3 : decide (x = y) = false := by simp; omega
    go_wp2
    go_quiet (fail)
    go_wp2
    go_ret
    exact ⟨ret_bool (by simp [h3]), _, by simp; rfl⟩
  · have h1 : ¬ y < x := by omega
    have h2 : (x == y) = true := by simp [h]
    have H := Lib.hid h; clear h
    by_cases hab : a < b
    · go_wp2
      go_quiet (fail)
      go_wp2
      go_ret
      exact ⟨ret_bool (by simp [H.out, hab]), _, by simp; rfl⟩
    · go_wp2
      go_quiet (fail)
      go_wp2
      go_ret
      exact ⟨ret_bool (by simp [H.out, hab]), _, by simp; rfl⟩
  · go_wp2
    go_quiet (fail)
    go_wp2
    go_ret
    exact ⟨ret_bool (by simp [h]), _, by simp; rfl⟩
theorem swapperK5 {i : TypeInfo} (hb : i.bytes = 8) (hp : i.hasPointers = false) (n : Nat) (h2 : 2 ≤ n) : Lib.swapperK n i 2 = 5 := by
  have c : (n == 0) = false := by simp; omega
  have d : (n == 1) = false := by simp; omega
  simp [Lib.swapperK, hb, hp, c, d]
theorem swapperK2 (i : TypeInfo) : Lib.swapperK 1 i 2 = 2 := by simp [Lib.swapperK]
theorem ext_all {α : Type} (a : Array α) (n : Nat) (h : a.size = n) : (a.extract 0 n).toList = a.toList := by subst h; simp
/-- A party as a value. -/
def encP (n : Nat) (x : Fin n) : Value := .int .i64 (x.val : Int)
def ltP (R : List Int) (n : Nat) (a b : Fin n) : Bool := bef R a.val b.val
theorem swoP (R : List Int) (n : Nat) : Sort.SWO (ltP R n) :=
  ⟨fun x => bef_irr R x.val, fun x y z h1 h2 => bef_tr h1 h2, fun x y z h1 h2 => by
    unfold ltP at *; rw [bef_not] at *; omega⟩
def allP (n : Nat) : Array (Fin n) := Array.ofFn fun i => i
set_option maxHeartbeats 1600000 in
theorem sortParties_any (n b0 b1 b2 b3 : Nat) (R : List Int) (w : World) (h1 : 1 ≤ n) (h12 : n ≤ 12) (hs2 : w.cell? ⟨b3, 0, none⟩ = some (.slice (some ⟨b2, 0, none⟩) n n)) (hs3 : w.cell? ⟨b1, 0, none⟩ = some (.slice (some ⟨b0, 0, none⟩) n n))
    (hp : ∀ t, t < n → w.cell? ⟨b2, t, none⟩ = some (.int .i64 t) ∧ w.frozen? ⟨b2, t, none⟩ = false) (hr : ∀ t, t < n → w.cell? ⟨b0, t, none⟩ = some (.int .i64 (R.getD t 0))) (n0 : b0 < b2) (n1 : b1 < b2) (n3 : b2 < b3) :
    Calls Try.prog 46 #[.iface 50 (.slice (some ⟨b2, 0, none⟩) n n), .func (.func 47) #[] #[.pointer (some ⟨b3, 0, none⟩), .pointer (some ⟨b1, 0, none⟩)]] w fun e w' =>
      e = .returned (.tuple #[]) ∧ ∃ p : List Nat, p.Perm (List.range n) ∧ (∀ i j, i < j → j < n → bef R (p.getD j 0) (p.getD i 0) = false) ∧ (∀ r, r < n → w'.cell? ⟨b2, r, none⟩ = some (.int .i64 ((p.getD r 0 : Nat) : Int))) ∧
        w'.cell? ⟨b3, 0, none⟩ = some (.slice (some ⟨b2, 0, none⟩) n n) ∧ Below b2 w w' := by
  obtain ⟨iT, hiT, hdT⟩ := infoSI_parts
  obtain ⟨iE, hiE, hz0, hz1, hz2, hz3⟩ := infoN_parts
  have lt3 := World.block_lt_of_cell? _ _ hs2
  have lt3' : b3 < w.heap.size := lt3
  by_cases h2 : 2 ≤ n
  · haveI : Inhabited (Fin n) := ⟨⟨0, by omega⟩⟩
    have hsz : (allP n).size = n := by simp [allP]
    have hget : ∀ t (ht : t < n), (allP n)[t]! = ⟨t, ht⟩ := fun t ht => by
      rw [getElem!_pos _ t (by rw [hsz]; exact ht)]; simp [allP]
    have hH : Sort.Holds (encP n) w b2 0 (allP n) := fun j hj => by
      rw [hsz] at hj
      rw [hget j hj, Nat.zero_add]; exact hp j hj
    have hless : Go.Proofs.LessReads Try.prog 47 #[.pointer (some ⟨b3, 0, none⟩), .pointer (some ⟨b1, 0, none⟩)] (encP n) (ltP R n) b2 0 (allP n).size w := by
      intro m os dk hs i j hi hj
      rw [hsz] at hs hi hj
      have e : Go.Proofs.sortWorld (encP n) w b2 0 m dk os = Sort.putRow (encP n) (Sort.grow (Sort.ahead w m) os) b2 0 dk := by
        unfold Go.Proofs.sortWorld; rw [Sort.putRow_grow _ (Sort.ahead w m) _ b2 0 _ (by show b2 < w.heap.size; omega)]
      have hHg : Sort.Holds (encP n) (Sort.grow (Sort.ahead w m) os) b2 0 (allP n) := Sort.holds_grow _ _ _ b2 0 _ (by show b2 < w.heap.size; omega) (Sort.holds_ahead _ _ _ _ _ _ hH)
      have hold : ∀ b o v, b ≠ b2 → w.cell? ⟨b, o, none⟩ = some v → (Go.Proofs.sortWorld (encP n) w b2 0 m dk os).cell? ⟨b, o, none⟩ = some v := fun b o v hb hv => by
        rw [e, Sort.cell?_putRow_other _ _ b2 0 dk _ (Or.inl (by show b ≠ b2; exact hb)), Sort.cell?_grow _ _ _ (by show b < w.heap.size; exact World.block_lt_of_cell? _ _ hv)]
        exact hv
      refine restLess_any n b0 b1 b2 b3 n n R (fun t => (dk[t]!).val) _ (hold _ _ _ (by omega) hs2) (hold _ _ _ (by omega) hs3) (fun t ht => ?_) (fun t ht => (dk[t]!).isLt) (fun t ht => hold _ _ _ (by omega) (hr t ht)) i j hi hj h12
      have := Sort.cell?_putRow (encP n) _ b2 0 (allP n) dk hHg (by rw [hs, hsz]) t (by rw [hs]; exact ht)
      rw [e]; rw [Nat.zero_add] at this; exact this
    have hS := Go.Proofs.Any.sort_Slice_small_sorted Try.laysGg6 50 3 iT iE hiT hdT (by kernel_rfl) hiE 2 (fun _ => by kernel_rfl) hz1 (fun _ => by kernel_rfl) (encP n) (fun _ => rfl) (ltP R n) (swoP R n) 47 _
      (enters_of Try.func47 (by kernel_rfl) rfl) b2 0 n (allP n) (by rw [hsz]; exact h2) (by rw [hsz]; exact h12) 66 (by rw [hsz, swapperK5 hz2 hz3 n h2]; kernel_rfl) true
      (fun args W => run_callFunc_extern Try.func66 (by kernel_rfl) (by kernel_rfl) (by kernel_rfl) (e := Extern.ReflectliteSwapper.swap true) (by kernel_rfl) args W) w hless hH (by omega)
    rw [hsz] at hS
    change Calls Try.prog 46 _ _ _ at hS
    refine hS.mono ?_
    rintro e w' ⟨rfl, d', q, os, hperm, hsort, rfl⟩
    obtain ⟨hps, _, hpp⟩ := hperm
    rw [hsz] at hps
    have hx1 : (d'.extract 0 n).toList = d'.toList := ext_all d' n hps
    have hx2 : ((allP n).extract 0 n).toList = (allP n).toList := ext_all _ n hsz
    rw [hx1, hx2] at hpp
    have hgp : ∀ r (hr : r < n), ((d'.toList.map (·.val)).getD r 0 : Nat) = (d'[r]!).val := fun r hr => by
      rw [getElem!_pos d' r (by omega)]
      simp [List.getD_eq_getElem?_getD, hps, hr]
    refine ⟨rfl, d'.toList.map (·.val), ?_, fun i j hij hj => ?_, fun r hr => ?_, ?_, ?_⟩
    · have h3 := hpp.map (·.val)
      have h4 : (allP n).toList.map (·.val) = List.range n := by
        apply List.ext_getElem
        · simp [allP]
        · intro i h5 h6; simp [allP]
      rw [h4] at h3; exact h3
    · rw [hgp j (by omega), hgp i (by omega)]
      exact hsort i j (Nat.zero_le _) hij hj
    · rw [hgp r hr, Sort.cell?_grow _ _ _ (by rw [Sort.size_putRow]; show b2 < w.heap.size; omega)]
      have := Sort.cell?_putRow (encP n) (Sort.ahead w q) b2 0 (allP n) d' (Sort.holds_ahead _ _ _ _ _ _ hH) (by rw [hps, hsz]) r (by rw [hps]; exact hr)
      rw [Nat.zero_add] at this; exact this
    · rw [Sort.cell?_grow _ _ _ (by rw [Sort.size_putRow]; exact lt3), Sort.cell?_putRow_other _ _ b2 0 d' _ (Or.inl (by show b3 ≠ b2; omega))]
      exact hs2
    · have k1 : Below b2 w (Sort.putRow (encP n) (Sort.ahead w q) b2 0 d') := Lib.below_putRow (Below.refl _ _) (Nat.le_refl _)
      exact k1.trans (Lib.below_grow b2 _ (by rw [Sort.size_putRow]; show b2 ≤ w.heap.size; omega) 0 os)
  · have hn1 : n = 1 := by omega
    subst hn1
    have hS := Go.Proofs.Any.sort_Slice_tiny Try.laysGg6 50 3 iT iE hiT hdT (by kernel_rfl) hiE 2 (fun _ => by kernel_rfl) (some ⟨b2, 0, none⟩) 1 1 (Nat.le_refl _) 63 (by rw [swapperK2]; kernel_rfl) (.func 47) #[] #[.pointer (some ⟨b3, 0, none⟩), .pointer (some ⟨b1, 0, none⟩)] w
    change Calls Try.prog 46 _ _ _ at hS
    refine hS.mono ?_
    rintro e w' ⟨rfl, os, rfl⟩
    refine ⟨rfl, [0], by decide, fun i j hij hj => by omega, fun r hr => ?_, ?_, ?_⟩
    · obtain rfl : r = 0 := by omega
      rw [Sort.cell?_grow _ _ _ (by show b2 < w.heap.size; omega)]; exact (hp 0 (by omega)).1
    · rw [Sort.cell?_grow _ _ _ (by exact lt3)]; exact hs2
    · exact Lib.below_grow b2 w (by omega) 0 os
end Go.Proofs.Ytklpnllkpapdoaa
