/- Where a party loses a seat by one seat more: the program's side. -/
import Derived.Test.YtklpnllkpapdoaaRemainder
import Derived.Deep.LoopGhost
namespace Go.Proofs.Ytklpnllkpapdoaa
open Go.ChangeShapes Go.WideShapes Go.ChangeAt Go.RowKit
set_option linter.unusedVariables false
/-- The party i has fewer seats of k + 1 than of k. -/
def lossAt (zs : List Int) (k i : Nat) : Prop := (remS ((k : Int) + 1) zs).getD i 0 < (remS (k : Int) zs).getD i 0
/-- Three results: where a party first loses a seat. -/
def FL (zs : List Int) (a b : Int) (c : Bool) : Prop :=
  (okVotes zs = false ∧ a = 0 ∧ b = 0 ∧ c = false) ∨ (okVotes zs = true ∧ a = 0 ∧ b = 0 ∧ c = false ∧ ∀ k i, k < 100 → i < zs.length → ¬ lossAt zs k i) ∨
    (okVotes zs = true ∧ c = true ∧ ∃ k i : Nat, a = k ∧ b = i ∧ k < 100 ∧ i < zs.length ∧ lossAt zs k i ∧ (∀ k' i', k' < k → i' < zs.length → ¬ lossAt zs k' i') ∧ ∀ i', i' < i → ¬ lossAt zs k i')
theorem FL.unique {zs : List Int} {a b a' b' : Int} {c c' : Bool} (h : FL zs a b c) (h' : FL zs a' b' c') : a = a' ∧ b = b' ∧ c = c' := by
  rcases h with ⟨h0, h1, h2, h3⟩ | ⟨h0, h1, h2, h3, h4⟩ | ⟨h0, h3, k, i, h1, h2, hk, hi, hl, hn, hm⟩
  · rcases h' with ⟨g0, g1, g2, g3⟩ | ⟨g0, g1, g2, g3, g4⟩ | ⟨g0, g3, _⟩
    · exact ⟨by omega, by omega, by rw [h3, g3]⟩
    · rw [h0] at g0; cases g0
    · rw [h0] at g0; cases g0
  · rcases h' with ⟨g0, g1, g2, g3⟩ | ⟨g0, g1, g2, g3, g4⟩ | ⟨g0, g3, k', i', g1, g2, gk, gi, gl, gn, gm⟩
    · rw [h0] at g0; cases g0
    · exact ⟨by omega, by omega, by rw [h3, g3]⟩
    · exact absurd gl (h4 k' i' gk gi)
  · rcases h' with ⟨g0, g1, g2, g3⟩ | ⟨g0, g1, g2, g3, g4⟩ | ⟨g0, g3, k', i', g1, g2, gk, gi, gl, gn, gm⟩
    · rw [h0] at g0; cases g0
    · exact absurd hl (g4 k i hk hi)
    · have e1 : k = k' := by
        rcases Nat.lt_trichotomy k k' with h | h | h
        · exact absurd hl (gn k i h hi)
        · exact h
        · exact absurd gl (hn k' i' h gi)
      subst e1
      have e2 : i = i' := by
        rcases Nat.lt_trichotomy i i' with h | h | h
        · exact absurd hl (gm i h)
        · exact h
        · exact absurd gl (hm i' h)
      subst e2
      exact ⟨by omega, by omega, by rw [h3, g3]⟩
open Classical in
noncomputable def flT (zs : List Int) : Int × Int × Bool := if h : ∃ p : Int × Int × Bool, FL zs p.1 p.2.1 p.2.2 then Classical.choose h else (0, 0, false)
theorem FL.eq {zs : List Int} {a b : Int} {c : Bool} (h : FL zs a b c) : (flT zs).1 = a ∧ (flT zs).2.1 = b ∧ (flT zs).2.2 = c := by
  have hx : ∃ p : Int × Int × Bool, FL zs p.1 p.2.1 p.2.2 := ⟨(a, b, c), h⟩
  unfold flT
  rw [dif_pos hx]
  exact (Classical.choose_spec hx).unique h
theorem FL.ret {zs : List Int} {a b : Int} {c : Bool} (h : FL zs a b c) : Ending.returned (.tuple #[.int .i64 a, .int .i64 b, .bool c]) = .returned (.tuple #[.int .i64 (flT zs).1, .int .i64 (flT zs).2.1, .bool (flT zs).2.2]) := by
  obtain ⟨h1, h2, h3⟩ := h.eq
  rw [h1, h2, h3]
theorem remS_len (s : Int) (zs : List Int) : (remS s zs).length = zs.length := remTo_len s zs _
set_option maxHeartbeats 6400000 in
theorem FirstLoss_fl (ad : Option Addr) (cap : Nat) (zs : List Int) (w : World) (hz : Ints w ad zs) :
    Calls Try.prog 9 #[.slice ad zs.length cap] w fun e w' => ∃ (a b : Int) (c : Bool), e = .returned (.tuple #[.int .i64 a, .int .i64 b, .bool c]) ∧ FL zs a b c ∧ Keep w w' := by
  cases h1 : okVotes zs
  · have HF : Hid (FL zs 0 0 false) := Lib.hid (.inl ⟨h1, rfl, rfl, rfl⟩)
    go_enter Try.func9, Try.ntmps9
    go_wp2_with (go_at_call 19; refine (ValidVotes_any ad cap zs w hz).mono ?_; rw [h1]; rintro e w' ⟨rfl, rfl⟩)
    go_ret3
    exact ⟨_, _, _, rfl, HF.out, by go_grown⟩
  · have hl := okVotes_len h1
    have HQ : Hid (∀ s : Int, 0 ≤ s → s ≤ 100 → ∀ W, Ints W ad zs → Calls Try.prog 11 #[.slice ad zs.length cap, .int .i64 s] W fun e w' =>
      ∃ rd rc, e = .returned (.tuple #[.slice rd zs.length rc, .bool true]) ∧ Own w' W.heap.size rd rc (remS s zs) ∧ Keep W w') := Lib.hid (fun s s1 s2 W h => by
      have := RemainderSeats_any ad cap zs s W h ⟨by omega, by omega⟩
      have hok : okQ s zs = true := by unfold okQ; rw [h1, inB_iff.2 ⟨s1, s2⟩]; rfl
      rw [hok, show remV s zs = remS s zs from by simp [remV, hok], remS_len] at this
      exact this)
    have HLN := Lib.hid (fun s => remS_len s zs)
    have HFY : Hid (∀ k i : Nat, k < 100 → i < zs.length → lossAt zs k i → (∀ k' i', k' < k → i' < zs.length → ¬ lossAt zs k' i') → (∀ i', i' < i → ¬ lossAt zs k i') → FL zs k i true) := Lib.hid (fun k i hk hi h2 h3 h4 => .inr (.inr ⟨h1, rfl, k, i, rfl, rfl, hk, hi, h2, h3, h4⟩))
    have HFN : Hid ((∀ k i, k < 100 → i < zs.length → ¬ lossAt zs k i) → FL zs 0 0 false) := Lib.hid (fun h => .inr (.inl ⟨h1, rfl, rfl, rfl, h⟩))
    have H1 := Lib.hid h1; clear h1
    go_enter Try.func9, Try.ntmps9
    go_wp2_with (go_at_call 19; refine (ValidVotes_any ad cap zs w hz).mono ?_; rw [H1.out]; rintro e w' ⟨rfl, rfl⟩)
    go_loopg [15] 100 (fun kk i wr => ∃ k : Nat, k ≤ 100 ∧ kk = 100 - k ∧ i = .int .i64 k ∧ Hid (∀ k' i', k' < k → i' < zs.length → ¬ lossAt zs k' i') ∧ Keep w wr)
    case atStart => exact ⟨0, Nat.zero_le _, rfl, rfl, Lib.hid (fun k' i' h => by omega), Below.refl _ _⟩
    case round =>
      obtain ⟨k, hk, rfl, rfl, HNO, hbel⟩ := hrel
      by_cases hlt : k < 100
      · have HB := Lib.hid hbel; clear hbel
        go_wp2_with fail
        refine (HQ.out (k : Int) (by omega) (by omega) _ (hz.keep HB.out (Nat.le_refl _))).mono ?_
        rintro e w1 ⟨rd, rc, rfl, o1, k1⟩
        have g1 := Keep.next HB.out k1
        go_wp2_with fail
        refine (HQ.out ((k : Int) + 1) (by omega) (by omega) _ (hz.keep g1 (Nat.le_refl _))).mono ?_
        rintro e w2 ⟨rd2, rc2, rfl, o2, k2⟩
        have HB2 := Lib.hid (Keep.next g1 k2)
        have i1 := (o1.keep k2).ints
        have i2 := o2.ints
        clear o1 o2 k1 k2 g1
        generalize hw9 : wr = w9 at *
        clear hw9
        have hLD : ∀ i, lossAt zs k i ↔ (remS ((k : Int) + 1) zs).getD i 0 < (remS (k : Int) zs).getD i 0 := fun i => Iff.rfl
        have HLD := Lib.hid hLD; clear hLD
        have hl1 := HLN.out (k : Int)
        have hl2 := HLN.out ((k : Int) + 1)
        generalize remS ((k : Int) + 1) zs = nx at HLD i2 hl2
        generalize remS (k : Int) zs = nw at HLD i1 hl1
        have HL1 := Lib.hid hl1; have HL2 := Lib.hid hl2; clear hl1 hl2
        go_wp2
        go_loopg [33] zs.length (fun kk i wi => ∃ j : Nat, j ≤ zs.length ∧ kk = zs.length - j ∧ i = .int .i64 j ∧ Hid (∀ i', i' < j → ¬ lossAt zs k i') ∧ wi = w2)
        case atStart => exact ⟨0, Nat.zero_le _, rfl, rfl, Lib.hid (fun i' h => by omega), rfl⟩
        case round =>
          obtain ⟨j, hj, rfl, rfl, HNJ, rfl⟩ := hrel
          by_cases hjn : j < zs.length
          · rcases i1.at_ with h | ⟨b1, off1, rfl, hb1, hc1⟩
            · have := HL1.out; rw [h] at this; simp at this; omega
            rcases i2.at_ with h | ⟨b2, off2, rfl, hb2, hc2⟩
            · have := HL2.out; rw [h] at this; simp at this; omega
            have hcx := hc1 j (by rw [HL1.out]; exact hjn)
            have hcy := hc2 j (by rw [HL2.out]; exact hjn)
            have HLJ := Lib.hid (HLD.out j)
            clear hc1 hc2
            generalize nw.getD j 0 = x at hcx HLJ
            generalize nx.getD j 0 = y at hcy HLJ
            by_cases hxy : y < x
            · have HY := Lib.hid (HFY.out k j hlt hjn (HLJ.out.2 hxy) HNO.out HNJ.out)
              go_wp2
              go_ret3
              exact ⟨_, _, _, rfl, HY.out, HB2.out⟩
            · have HNX := Lib.hid (fun hh => hxy (HLJ.out.1 hh))
              go_wp2
              go_roundg (zs.length - (j + 1))
              case measure => omega
              case rel =>
                refine ⟨j + 1, by omega, rfl, by go_num, Lib.hid (fun i' hi' => ?_), rfl⟩
                rcases Nat.lt_or_eq_of_le (Nat.le_of_lt_succ hi') with h | h
                · exact HNJ.out i' h
                · subst h; exact HNX.out
          · have hje : j = zs.length := by omega
            subst hje
            go_wp2
            go_roundg (100 - (k + 1))
            case measure => omega
            case rel =>
              refine ⟨k + 1, by omega, rfl, by go_num, Lib.hid (fun k' i' hk' hi' => ?_), HB2.out⟩
              rcases Nat.lt_or_eq_of_le (Nat.le_of_lt_succ hk') with h | h
              · exact HNO.out k' i' h hi'
              · subst h; exact HNJ.out i' hi'
      · have hke : k = 100 := by omega
        subst hke
        have HN := Lib.hid (HFN.out (fun k' i' h1 h2 => HNO.out k' i' h1 h2))
        have HB := Lib.hid hbel; clear hbel
        go_wp2
        go_ret3
        exact ⟨_, _, _, rfl, HN.out, HB.out⟩
theorem FirstLoss_any (ad : Option Addr) (cap : Nat) (zs : List Int) (w : World) (hz : Ints w ad zs) :
    Calls Try.prog 9 #[.slice ad zs.length cap] w fun e w' => e = .returned (.tuple #[.int .i64 (flT zs).1, .int .i64 (flT zs).2.1, .bool (flT zs).2.2]) ∧ Keep w w' :=
  (FirstLoss_fl ad cap zs w hz).mono fun e w' ⟨a, b, c, he, hf, k⟩ => ⟨by rw [he]; exact hf.ret, k⟩
theorem RemainderSeats_ok (ad : Option Addr) (cap : Nat) (zs : List Int) (s : Int) (w : World) (h : Ints w ad zs) (h1 : okVotes zs = true) (s1 : 0 ≤ s) (s2 : s ≤ 100) :
    Calls Try.prog 11 #[.slice ad zs.length cap, .int .i64 s] w fun e w' => ∃ rd rc, e = .returned (.tuple #[.slice rd zs.length rc, .bool true]) ∧ Own w' w.heap.size rd rc (remS s zs) ∧ Keep w w' := by
  have := RemainderSeats_any ad cap zs s w h ⟨by omega, by omega⟩
  have hok : okQ s zs = true := by unfold okQ; rw [h1, inB_iff.2 ⟨s1, s2⟩]; rfl
  rw [hok, show remV s zs = remS s zs from by simp [remV, hok], remS_len] at this
  exact this
end Go.Proofs.Ytklpnllkpapdoaa
