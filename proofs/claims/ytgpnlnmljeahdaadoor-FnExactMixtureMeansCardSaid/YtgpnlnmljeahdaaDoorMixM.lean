/- Mixtures marked. -/
import Derived.Test.YtgpnlnmljeahdaaDoorMix
import Derived.Test.YtgpnlnmljeahdaaDoorMarks
namespace Go.Proofs.YtgpnlnmljeahdaaDoor
open Go.ChangeShapes Go.WideShapes Go.ChangeAt Go.RowKit Go.Joins Go.Deep
set_option linter.unusedVariables false
theorem BoxM.span {w w' : World} {b : Nat} {ad bd : Option Addr} {n cap m bcap lo hi : Nat} (h : BoxM w b ad n cap bd m bcap) (s : Span w w' lo hi) (sep : b < lo ∨ hi ≤ b) : BoxM w' b ad n cap bd m bcap :=
  ⟨(World.cell?_of_block (w := w) (s.block b h.lt sep)).trans h.c0, (World.cell?_of_block (w := w) (s.block b h.lt sep)).trans h.c1, Nat.lt_of_lt_of_le h.lt s.size⟩
theorem BoxM.past {w w' : World} {b : Nat} {ad bd : Option Addr} {n cap m bcap : Nat} {lo2 hi2 : Nat} {ad2 : Option Addr} {cap2 n2 : Nat} {zs2 : List Int} (h : BoxM w b ad n cap bd m bcap) (g : Mine w' lo2 hi2 ad2 cap2 zs2) (k : w.grownBy w' (Value.slice ad2 n2 cap2).ownBlock) (sep : b < lo2 ∨ hi2 ≤ b) : BoxM w' b ad n cap bd m bcap := by
  have e : w'.heap[b]? = w.heap[b]? := k.block b h.lt (fun e => by
    rcases own_block g.own.1 with ⟨rfl, _⟩ | ⟨k2, rfl, h4, _⟩
    · simp [Value.ownBlock] at e
    · simp [Value.ownBlock] at e; have := g.below k2 rfl; omega)
  exact ⟨(World.cell?_of_block (w := w) e).trans h.c0, (World.cell?_of_block (w := w) e).trans h.c1, Nat.lt_of_lt_of_le h.lt k.size⟩
theorem markMixture_ex (lo mid hi b c : Nat) (G : Nat → Nat) (zs : List Int) (zss : List (List Int)) (k : Int) (w : World) (h : Mine w lo mid (some ⟨b, 0, none⟩) zs.length zs) (hs : MineSS w mid hi c G zss) (hhi : hi ≤ w.heap.size) (hk : -1099511627776 ≤ k) (hk2 : k ≤ 8796093022208) (hl : zs.length ≤ 1099511627776) (ht : tot zss ≤ 1099511627776) :
    Calls Tryd.prog 44 #[mixV (some ⟨b, 0, none⟩) zs.length zs.length (some ⟨c, 0, none⟩) zss.length zss.length, .int .i64 k] w fun e w' =>
      e = .returned (.int .i64 (k + zs.length + tot zss)) ∧ (Own w' lo (some ⟨b, 0, none⟩) zs.length (ups k zs.length) ∧ OwnSS w' c G (upsS (k + zs.length) zss)) ∧ Span w w' lo hi := by
  have hlb : lo ≤ b ∧ b < mid := by
    refine ⟨?_, h.below b rfl⟩
    rcases own_block h.own.1 with ⟨e, _⟩ | ⟨g, e, h2, _⟩
    · cases e
    · simp at e; omega
  have hmh : mid < hi := Nat.lt_of_le_of_lt hs.lo_ hs.hi_
  have B0 : BoxM (w.alloc (.cells #[.slice (some ⟨b, 0, none⟩) zs.length zs.length, .slice (some ⟨c, 0, none⟩) zss.length zss.length] 31)) w.heap.size (some ⟨b, 0, none⟩) zs.length zs.length (some ⟨c, 0, none⟩) zss.length zss.length := ⟨by simp, by simp, by simp⟩
  have HK0 := Lib.hid (show Keep w (w.alloc (.cells #[.slice (some ⟨b, 0, none⟩) zs.length zs.length, .slice (some ⟨c, 0, none⟩) zss.length zss.length] 31)) by go_grown)
  go_enter Tryd.func44, Tryd.ntmps44
  go_wp2_with fail
  refine (markInt64S_any lo (some ⟨b, 0, none⟩) zs.length zs k _ (h.keep HK0.out).own hk (by omega) hl).mono ?_
  rintro e w1 ⟨rfl, ho, hgr, hsz⟩
  have sp1 : Span _ w1 lo mid := Span.of_grown hgr (fun g hg => by simp [Value.ownBlock] at hg; omega)
  obtain ⟨q0, q1, q2⟩ := B0.span sp1 (.inr (by omega))
  have HS1 := Lib.hid ((hs.keep HK0.out).span sp1 (.inr (Nat.le_refl _)))
  have SP1 := Lib.hid ((Span.of_keep (lo := lo) (hi := mid) HK0.out).trans sp1)
  have HO := Lib.hid ho
  clear ho hgr sp1 B0
  go_wp2_with fail
  refine (markInt64SS_ex mid hi c G zss _ w1 HS1.out (by omega) (by omega) ht).mono ?_
  rintro e w2 ⟨rfl, o2, sp2⟩
  have HO2 := Lib.hid (sp2.own HO.out (fun b' hb' => by cases hb'; omega))
  have HS2 := Lib.hid o2
  have SP2 := Lib.hid ((SP1.out.wider (Nat.le_refl _) (by omega)).trans (sp2.wider (by omega) (Nat.le_refl _)))
  clear o2 sp2
  go_wp2
  go_ret
  exact ⟨rfl, ⟨HO2.out, HS2.out⟩, SP2.out⟩
end Go.Proofs.YtgpnlnmljeahdaaDoor
