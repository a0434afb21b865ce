/- Sums of blocks: the library's iterator over the blocks of a slice. -/
import Derived.Test.YtlenmhefgpcmmaaChunk1
namespace Go.Proofs.Ytlenmhefgpcmmaa
open Go.ChangeShapes Go.WideShapes Go.ChangeAt Go.RowKit Go.Shelf
set_option linter.unusedVariables false
attribute [local go_sem] Oper.semAt_some
theorem grown_drew (W : World) : W.grownBy W.drew none := ⟨rfl, rfl, rfl, Nat.le_refl _, fun _ _ _ => rfl⟩
set_option maxHeartbeats 1000000 in
/-- At an empty slice there is no round. -/
theorem chunk1_none_in (F : Fence) (n : Nat) (h7 : F.fn 62) (hro : F.round = none) (l Bs Bn : Nat) (ad : Option Addr) (cap : Nat) (J : List Nat → World → Prop) (W : World) (hBs : W.cell? ⟨Bs, 0, none⟩ = some (.slice ad 0 cap)) (h0 : J [] W) (p : Value) :
    CallsIn F n Try.prog 62 #[.func (.yield l) #[] #[], .pointer (some ⟨Bs, 0, none⟩), p] W fun e W' => (∃ v, e = .returned v) ∧ J [] W' := by
  refine callsIn_of_wp Try.func62 rfl h7 ?_ hro
  simp only [Try.ntmps62, List.size_toArray, List.length_cons, List.length_nil, Nat.reduceAdd, Nat.reduceSub, Array.replicate_succ, Array.replicate_zero, List.push_toArray, List.append_toArray, List.nil_append, List.cons_append]
  gi_wp2
  gi_loopw [4] (fun i wr => i = .int .i64 0 ∧ wr = W) (fun _ _ => 0)
  case atStart => exact ⟨rfl, rfl⟩
  case round =>
    obtain ⟨rfl, rfl⟩ := hrel
    gi_wp2
    go_end0
    exact ⟨⟨_, rfl⟩, h0⟩
/-- slices.Chunk(s, m) hands back a value that gives all blocks, in order. -/
theorem chunk_stops (F : Fence) (n : Nat) (h7 : F.fn 62) (hro : F.round = none) (hn : 1 ≤ n) (Bs Bn n₀ b off m q cap : Nat) (ad : Option Addr) (hm : 1 ≤ m) (hm2 : m ≤ 40) (hq : q * m ≤ 40) (hcap : q * m ≤ cap) (w : World) (hs0 : Bs < w.heap.size) (hn0 : Bn < w.heap.size) (hn₀ : n₀ ≤ w.heap.size)
    (had : q = 0 ∨ ad = some ⟨b, off, none⟩) (hBs : w.cell? ⟨Bs, 0, none⟩ = some (.slice ad (q * m) cap)) (hBn : w.cell? ⟨Bn, 0, none⟩ = some (.int .i64 m)) :
    SeqStopsK F n Try.prog 62 #[.pointer (some ⟨Bs, 0, none⟩), .pointer (some ⟨Bn, 0, none⟩)] (fun x : Nat => #[Value.slice (some ⟨b, off + min x (q - 1) * m, none⟩) m m]) (Kc n₀ Bs Bn) (fun ys => ys = upto (fun j => j) q)
      (fun pre => ∃ k, k ≤ q ∧ pre = upto (fun j => j) k) q w := fun l J Jx W hW hJ _ hY h0 => by
  have hs' := (hW.cell (p := ⟨Bs, 0, none⟩) hs0).trans hBs
  have hn' := (hW.cell (p := ⟨Bn, 0, none⟩) hn0).trans hBn
  by_cases hq0 : q = 0
  · subst hq0
    rw [Nat.zero_mul] at hs'
    exact (chunk1_none_in F n h7 hro l Bs Bn ad cap J W hs' h0 _).mono fun e W' ⟨he, hj⟩ => ⟨he, .inl ⟨_, rfl, hj⟩⟩
  · rcases had with h | h
    · exact absurd h hq0
    subst h
    exact chunk1_in F n h7 hro hn l Bs Bn n₀ b off m q cap hm hm2 hq hcap J Jx (fun s W h => hJ s W W.drew none h (grown_drew W) (fun r e => by cases e)) (fun pre x W h1 h2 hx => by have h := hY pre x W h1 h2; dsimp only at h; rw [show min x (q - 1) = x from by omega] at h; exact h) W hs' hn' h0
set_option maxHeartbeats 1000000 in
theorem chunk_in (F : Fence) (n : Nat) (h5 : F.fn 40) (hro : F.round = none) (a : Option Addr) (len cap m : Nat) (hm : 1 ≤ m) (hm2 : m ≤ 40) (w : World) :
    CallsIn F n Try.prog 40 #[.slice a len cap, .int .i64 m] w fun e w' => e = .returned (.func (.func 62) #[] #[.pointer (some ⟨w.heap.size, 0, none⟩), .pointer (some ⟨w.heap.size + 1, 0, none⟩)]) ∧ w' = (w.alloc (.cells #[.slice a len cap] 27)).alloc (.cells #[.int .i64 m] 3) := by
  refine callsIn_of_wp Try.func40 rfl h5 ?_ hro
  simp only [Try.ntmps40, List.size_toArray, List.length_cons, List.length_nil, Nat.reduceAdd, Nat.reduceSub, Array.replicate_succ, Array.replicate_zero, List.push_toArray, List.append_toArray, List.nil_append, List.cons_append]
  gi_wp2
  go_ret
  exact ⟨rfl, rfl⟩
end Go.Proofs.Ytlenmhefgpcmmaa
