/- The sum of squares over all colourings: the program's side, and the model's. -/
import Derived.Test.YtaockgegghmphabDegI10
import Derived.Test.YtaockgegghmphabDisS10
namespace Go.Proofs.Ytaockgegghmphab
open Go.ChangeShapes Go.WideShapes Go.ChangeAt Go.RowKit Go.Deep
set_option linter.unusedVariables false
def avgS (g : Int) (zs : List Int) : Int := if okS g zs then (2 ^ g.toNat : Nat) * (pcL zs).sum else 0
def avgC (g : Int) (zs : List Int) : Int := if okS g zs then (2 ^ g.toNat : Nat) else 0
theorem pcL_len (zs : List Int) : (pcL zs).length = zs.length := by simp [pcL]
theorem pcL_in (zs : List Int) : ∀ z ∈ pcL zs, 0 ≤ z ∧ z ≤ 64 := by
  intro z hz; obtain ⟨y, _, rfl⟩ := List.mem_map.1 hz; have := pc_le y.toNat; omega
theorem pcL_sum {zs : List Int} (h : zs.length ≤ 12) : 0 ≤ (pcL zs).sum ∧ (pcL zs).sum ≤ 768 := by
  have : ∀ (l : List Int), (∀ z ∈ l, 0 ≤ z ∧ z ≤ 64) → 0 ≤ l.sum ∧ l.sum ≤ 64 * l.length := by
    intro l
    induction l with
    | nil => intro _; simp
    | cons a t ih =>
      intro hl
      have i1 := ih (fun z hz => hl z (by simp [hz]))
      have i2 := hl a (by simp)
      simp only [List.sum_cons, List.length_cons]; omega
  have := this _ (pcL_in zs)
  rw [pcL_len] at this; omega
theorem avgC_any (z : Int) (w : World) (h0 : 0 ≤ z) (h1 : z < 4096) :
    Calls Try.prog 55 #[.int .i64 z] w fun e w' => e = .returned (.int .i64 (pc z.toNat : Nat)) ∧ w = w' := by
  obtain ⟨x, rfl⟩ : ∃ x : Nat, z = x := ⟨z.toNat, by omega⟩
  have e0 : IntKind.u64.wrap (x : Int) = (x : Int) := by rw [IntKind.wrap_u64]; omega
  rw [Int.toNat_natCast]
  have hpl := pc_le x
  have HQ := Lib.hid (fun W => size_any x W (by omega))
  generalize pc x = c at *
  have e1 : IntKind.i64.wrap (c : Int) = (c : Int) := IntWalk.i64_in _ (by omega)
  go_enter Try.func55, Try.ntmps55
  go_wp2_with (go_at_call 56; refine (HQ.out _).mono ?_; rintro e w' ⟨rfl, rfl⟩)
  go_ret
  exact ⟨rfl, rfl⟩
set_option maxHeartbeats 1600000 in
theorem AverageImbalance_any (g : Int) (ad : Option Addr) (cap : Nat) (zs : List Int) (w : World) (hz : Ints w ad zs) :
    Calls Try.prog 16 #[valV g ad zs.length cap] w fun e w' => e = .returned (.tuple #[.int .i64 (avgS g zs), .int .i64 (avgC g zs), .bool (okS g zs)]) ∧ Keep w w' := by
  have hlen := hz.small
  have B0 : Box (w.alloc (.cells #[.int .i64 g, .slice ad zs.length cap] 26)) w.heap.size g ad zs.length cap := ⟨by simp, by simp, by simp⟩
  cases h1 : okS g zs
  · rw [show avgS g zs = 0 from by simp [avgS, h1], show avgC g zs = 0 from by simp [avgC, h1]]
    go_enter Try.func16, Try.ntmps16
    go_wp2_with fail
    refine (ValidSystem_any g ad cap zs _ (hz.keep (B := _) (by go_grown) (Nat.le_refl _))).mono ?_
    rw [h1]
    rintro e w1 ⟨rfl, k1⟩
    have g1 : Keep w w1 := Keep.next (by go_grown) k1
    go_wp2
    go_ret3
    exact ⟨rfl, g1⟩
  obtain ⟨q0, q1, q2, q3⟩ := okS_parts h1
  have hs := okS_sets h1
  obtain ⟨n, rfl⟩ : ∃ n : Nat, g = n := ⟨g.toNat, by omega⟩
  have hn : n ≤ 12 := by omega
  obtain ⟨p1, p2, p3, p4⟩ := shl12 hn
  rw [show avgS n zs = (2 ^ n : Nat) * (pcL zs).sum from by simp [avgS, h1], show avgC n zs = (2 ^ n : Nat) from by simp [avgC, h1]]
  have HMP := Lib.hid (fun W (k : Keep w W) => mappedAvg_any (fun z => (pc z.toNat : Int)) (.int .i64 0) (.int .i64 0) ad cap zs W (hz.keep k (Nat.le_refl _)) (by omega) (fun z _ => by have := pc_le z.toNat; exact ⟨by omega, by omega⟩)
      (fun x hx W' kW' => avgC_any x W' (hs x hx).1 (hs x hx).2))
  rw [show zs.map (fun z => (pc z.toNat : Int)) = pcL zs from rfl] at HMP
  have HTOT := Lib.hid (fun ad2 cap2 W (h : Ints W ad2 (pcL zs)) => total_any ad2 cap2 (pcL zs) W h (fun z hz => by have := pcL_in zs z hz; omega) (by rw [pcL_len]; omega))
  have hsum := pcL_sum (zs := zs) q2
  generalize (pcL zs).sum = S at *
  generalize pcL zs = L at *
  have HP2 : Hid ((2 : Int) ^ n = ((2 ^ n : Nat) : Int)) := Lib.hid (by norm_cast)
  have HW1 : Hid (wrap64 ((2 : Int) ^ n) = (2 : Int) ^ n) := Lib.hid (by rw [HP2.out]; exact IntWalk.wrap64_in _ (by omega))
  have HW : Hid (wrap64 ((2 : Int) ^ n * S) = (2 : Int) ^ n * S) := Lib.hid (by
    rw [HP2.out]
    clear HP2 HW1 p1 p4
    generalize 2 ^ n = m at *
    have h1 : (m : Int) * S ≤ 4096 * 768 := Int.mul_le_mul (by omega) hsum.2 hsum.1 (by omega)
    have h2 : 0 ≤ (m : Int) * S := Int.mul_nonneg (by omega) hsum.1
    exact IntWalk.wrap64_in _ (by omega))
  clear q3 hs p1 p4 p2 p3
  go_enter Try.func16, Try.ntmps16
  go_wp2_with fail
  refine (ValidSystem_any n ad cap zs _ (hz.keep (B := _) (by go_grown) (Nat.le_refl _))).mono ?_
  rw [h1]
  rintro e w1 ⟨rfl, k1⟩
  have g1 : Keep w w1 := Keep.next (by go_grown) k1
  have B1 := Lib.hid (B0.keep k1)
  have G1 := Lib.hid g1
  obtain ⟨b0, b1, b2⟩ := B1.out
  clear B0 k1 g1
  go_wp2_with fail
  refine (HMP.out _ G1.out).mono ?_
  rintro e w2 ⟨rd, rc, rfl, o2, k2⟩
  have HK2 := Lib.hid (Keep.next G1.out k2)
  go_wp2_with fail
  refine (HTOT.out rd rc w2 o2.ints).mono ?_
  rintro e w3 ⟨rfl, rfl⟩

  have e1 := HW1.out
  have e2 := HW.out
  go_wp2
  refine bodyPost_ret (v := .tuple #[.int .i64 (((2 ^ n : Nat) : Int) * S), .int .i64 ((2 ^ n : Nat) : Int), .bool true]) (by simp [results, Try.results16, go_sem, e2]) rfl ?_
  exact ⟨rfl, HK2.out⟩
end Go.Proofs.Ytaockgegghmphab
