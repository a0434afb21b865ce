/- The needy sequence: the iterator over the products that are left. -/
import Derived.Test.YtpdcmhnaedhkdaaUp8
namespace Go.Proofs.Ytpdcmhnaedhkdaa
open Go.ChangeShapes Go.WideShapes Go.ChangeAt Go.RowKit Go.Shelf
set_option linter.unusedVariables false
/-- made.upTo(goal)'s value gives the products that are left, in order. -/
theorem upTo_stops (F : Fence) (n : Nat) (h7 : F.fn 132) (hro : F.round = none) (hn : 1 ≤ n) (Bg Bm n₀ : Nat) (f g : Nat → Int) (hf : ∀ i, i < 6 → 0 ≤ f i ∧ f i ≤ 260) (w : World) (hBg : Arr w Bg g) (hBm : Arr w Bm f) (hn0 : n₀ ≤ w.heap.size) :
    SeqStopsK F n Try.prog 132 #[.pointer (some ⟨Bg, 0, none⟩), .pointer (some ⟨Bm, 0, none⟩)] (fun x : Nat => #[Value.int .i64 x, .agg (six (fun j => if j = x then f x + 1 else f j))]) (Ka n₀ Bg Bm) (fun ys => ys = upN g f 6)
      (fun pre => ∃ k, k ≤ 6 ∧ pre = upN g f k) 6 w := fun l J Jx W hW hJ _ hY h0 =>
  upTo1_in F n h7 hro hn l Bg Bm n₀ f g hf J Jx (fun s W W' h g => hJ s W W' none h g (fun r e => by cases e)) (fun pre x W h1 h2 _ => hY pre x W h1 h2) W (hBg.keep hW hBg.lt) (hBm.keep hW hBm.lt) (Nat.le_trans hn0 hW.size) h0
theorem upTo_any (f g : Nat → Int) (w : World) :
    Calls Try.prog 91 #[.agg (six f), .agg (six g)] w fun e w' => e = .returned (.func (.func 132) #[] #[.pointer (some ⟨w.heap.size + 1, 0, none⟩), .pointer (some ⟨w.heap.size, 0, none⟩)]) ∧ Arr w' (w.heap.size + 1) g ∧ Arr w' w.heap.size f ∧ w'.heap.size = w.heap.size + 2 ∧ Keep w w' := by
  have hmf : ∀ (fn : Fn) (first cap : Array Value) (w : World), (Instr.makeFunc fn first cap).run Try.prog w = .ok (.func fn first cap) w := fun _ _ _ _ => rfl
  obtain ⟨W1, hW1⟩ : ∃ W1, W1 = (w.alloc (.cells (six f) 81)).alloc (.cells (six g) 81) := ⟨_, rfl⟩
  have a1 : Arr W1 (w.heap.size + 1) g := by rw [hW1]; exact heap_alloc2_new w _ _
  have a2 : Arr W1 w.heap.size f := by rw [hW1]; exact heap_alloc2_old w _ _
  have hs : W1.heap.size = w.heap.size + 2 := by rw [hW1]; simp
  have hk : Keep w W1 := by rw [hW1]; go_grown
  have H := Lib.hid (And.intro a1 (And.intro a2 (And.intro hs hk)))
  clear a1 a2 hs hk
  unfold six at hW1 ⊢
  go_enter Try.func91, Try.ntmps91
  go_wp2
  rw [← hW1]
  go_ret
  exact ⟨rfl, H.out⟩
end Go.Proofs.Ytpdcmhnaedhkdaa
