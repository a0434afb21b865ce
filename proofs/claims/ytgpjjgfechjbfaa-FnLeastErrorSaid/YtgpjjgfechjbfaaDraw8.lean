/- What the laws draw: votes, and numbers that an input chooses. -/
import Derived.Test.YtgpjjgfechjbfaaSrc
import Derived.Test.YtgpjjgfechjbfaaVotes
import Derived.Deep.LoopGhost
namespace Go.Proofs.Ytgpjjgfechjbfaa
open Go.ChangeShapes Go.WideShapes Go.ChangeAt Go.RowKit
set_option linter.unusedVariables false
theorem r8Long_any (ad bd : Option Addr) (ca cb n m : Nat) (w : World) (hn : n ≤ 9223372036854775807) (hm : m ≤ 9223372036854775807) :
    Calls Try.prog 16 #[.slice ad n ca, .slice bd m cb] w fun e w' => e = .returned (.bool (decide (48 < n) || decide (48 < m))) ∧ w = w' := by
  by_cases h : 48 < n
  · have h1 : (48 : Int) < n := by omega
    have e : (decide (48 < n) || decide (48 < m)) = true := by simp [h]
    rw [e]; clear e
    go_enter Try.func16, Try.ntmps16
    go_wp2
    go_ret
    exact ⟨rfl, rfl⟩
  · have h1 : ¬ (48 : Int) < n := by omega
    by_cases h2 : 48 < m
    · have h3 : (48 : Int) < m := by omega
      have e : (decide (48 < n) || decide (48 < m)) = true := by simp [h2]
      rw [e]; clear e
      go_enter Try.func16, Try.ntmps16
      go_wp2
      go_ret
      exact ⟨rfl, rfl⟩
    · have h3 : ¬ (48 : Int) < m := by omega
      have e : (decide (48 < n) || decide (48 < m)) = false := by simp; omega
      rw [e]; clear e
      go_enter Try.func16, Try.ntmps16
      go_wp2
      go_ret
      exact ⟨rfl, rfl⟩
theorem Own.beside {w w' : World} {B b : Nat} {ad : Option Addr} {cap : Nat} {zs : List Int} (h : Own w B ad cap zs) (g : w.grownBy w' (some b)) (hb : b < B) : Own w' B ad cap zs := by
  refine ⟨h.1.kept g ?_, h.2⟩
  rcases own_block h.1 with ⟨rfl, _⟩ | ⟨k, rfl, h1, _⟩
  · exact .inl rfl
  · right; simp [Value.ownBlock]; omega
theorem below_beside {w0 w w' : World} {B b : Nat} (h : Below B w0 w) (g : w.grownBy w' (some b)) (hB : B ≤ w.heap.size) (hb : B ≤ b) : Below B w0 w' :=
  h.grown g hB (fun k hk => by simp at hk; omega)
theorem r8At_any (ad : Option Addr) (cap : Nat) (zs : List Int) (k m : Int) (w : World) (hz : Bytes w ad zs) (hk : 0 ≤ k) (hk2 : k ≤ 1000) (hm : 1 ≤ m) (hm2 : m ≤ 1000000) :
    Calls Try.prog 24 #[.slice ad zs.length cap, .int .i64 k, .int .i64 m] w fun e w' => ∃ r : Int, 0 ≤ r ∧ r < m ∧ e = .returned (.int .i64 r) ∧ w = w' := by
  have hlen := hz.small
  by_cases h1 : m ≤ 1
  · go_enter Try.func24, Try.ntmps24
    go_wp2
    go_ret
    exact ⟨0, by omega, by omega, rfl, rfl⟩
  · obtain ⟨j, rfl⟩ : ∃ j : Nat, k = j := ⟨k.toNat, by omega⟩
    by_cases h2 : zs.length ≤ j
    · have h3 : (zs.length : Int) ≤ j := by omega
      go_enter Try.func24, Try.ntmps24
      go_wp2
      go_ret
      exact ⟨0, by omega, by omega, rfl, rfl⟩
    · have h3 : ¬ (zs.length : Int) ≤ j := by omega
      have hjl : j < zs.length := by omega
      rcases hz.at_ with h | ⟨a, off, rfl, hb, hc⟩
      · subst h; simp at hjl
      have hcx := hc j hjl
      have hx := hz.wf _ (getD_mem zs j hjl)
      clear hc
      generalize zs.getD j 0 = x at hcx hx
      have h4 := Int.emod_nonneg x (show m ≠ 0 by omega)
      have h5 := Int.emod_lt_of_pos x (show 0 < m by omega)
      go_enter Try.func24, Try.ntmps24
      go_wp2
      go_ret
      exact ⟨x % m, h4, h5, by rw [← Int.tmod_eq_emod_of_nonneg hx.1]; rfl, rfl⟩
set_option maxHeartbeats 3200000 in
theorem R8Votes_any (ad : Option Addr) (cap : Nat) (zs : List Int) (w : World) (hz : Bytes w ad zs) :
    Calls Try.prog 34 #[.slice ad zs.length cap] w fun e w' => ∃ (vs : List Int) (rd : Option Addr) (rc : Nat), e = .returned (.slice rd vs.length rc) ∧ Own w' w.heap.size rd rc vs ∧ okVotes vs = true ∧ Keep w w' := by
  have S0 : SrcAt (w.alloc (.cells #[.slice ad zs.length cap, .int .i64 0, .int .u64 0] 119)) w.heap.size ad cap zs 0 :=
    ⟨by simp, ⟨0, Nat.le_refl _, by simp⟩, ⟨0, by omega, by omega, by simp⟩, by simp, by simp⟩
  have k0 : Keep w (w.alloc (.cells #[.slice ad zs.length cap, .int .i64 0, .int .u64 0] 119)) := by go_grown
  have z0 := hz.keep k0 (Nat.le_refl _)
  have hz0 : (w.alloc (.cells #[.slice ad zs.length cap, .int .i64 0, .int .u64 0] 119)).heap.size = w.heap.size + 1 := by simp
  have HA : Hid (∀ a o, ad = some ⟨a, o, none⟩ → zs ≠ [] → a ≠ w.heap.size) := Lib.hid (fun a o h hne => by
    rcases hz.at_ with h1 | ⟨a', o', h1, h2, _⟩
    · exact absurd h1 hne
    · rw [h1] at h; simp at h; omega)
  go_enter Try.func34, Try.ntmps34
  go_wp2_with fail
  refine (l00From_any ad cap zs.length w).mono ?_
  rintro e w0 ⟨rfl, rfl⟩
  generalize w.alloc (.cells #[.slice ad zs.length cap, .int .i64 0, .int .u64 0] 119) = w0 at *
  obtain ⟨sb, hsb⟩ : ∃ b, b = w.heap.size := ⟨_, rfl⟩
  rw [← hsb] at S0 hz0 HA
  rw [← hsb]
  have HSB := Lib.hid hsb; clear hsb
  go_wp2_with fail
  refine (pick_any sb ad cap zs 0 30 _ S0 z0 (by omega) (by omega) (by omega)).mono ?_
  rintro e w1 ⟨r, r0, r1, rfl, s1, g1, e1⟩
  have z1 := z0.grown g1 HA.out
  have HS1 := Lib.hid s1; have HG1 := Lib.hid g1; have HZ1 := Lib.hid z1
  clear s1 g1 z1 S0 z0
  go_wp2_with fail
  have o1 : Own (w1.alloc (.cells #[.int .i64 (1 + r)] 2)) (sb + 1) (some ⟨sb + 1, 0, none⟩) 1 [1 + r] := by
    have e : w1.heap.size = sb + 1 := by omega
    have := World.ownsRow_lit (base := sb + 1) (e := 2) (size := 1) w1 #[.int .i64 (1 + r)] 1 (by omega) (by unfold maxLen; omega) rfl
    rw [e] at this
    exact ⟨by simpa [vals] using this, by simp, by intro z hz; simp at hz; subst hz; exact ⟨by omega, by omega⟩⟩
  have ka : Below w1.heap.size w1 (w1.alloc (.cells #[.int .i64 (1 + r)] 2)) := by go_grown
  have S1 := HS1.out.keep ka HS1.out.lt
  have z1 := HZ1.out.keep ka (Nat.le_refl _)
  have g1 : Keep w (w1.alloc (.cells #[.int .i64 (1 + r)] 2)) := by
    have k1 := below_beside k0 HG1.out (by rw [HSB.out] at hz0; omega) (by rw [HSB.out]; exact Nat.le_refl _)
    exact Below.trans k1 (ka.mono k1.size)
  have es : (w1.alloc (.cells #[.int .i64 (1 + r)] 2)).heap.size = sb + 2 := by simp; omega
  generalize w1.alloc (.cells #[.int .i64 (1 + r)] 2) = w2 at *
  have HO1 := Lib.hid o1; have HK1 := Lib.hid g1
  clear o1 ka g1 k0 HS1 HG1 HZ1
  refine (pick_any sb ad cap zs 1 5 _ S1 z1 (by omega) (by omega) (by omega)).mono ?_
  rintro e w3 ⟨c, c0, c1, rfl, s3, g3, e3⟩
  obtain ⟨c, rfl⟩ : ∃ j : Nat, c = j := ⟨c.toNat, by omega⟩
  have z3 := z1.grown g3 HA.out
  have o3 := HO1.out.beside g3 (by omega)
  have k3 := below_beside HK1.out g3 HK1.out.size (by rw [HSB.out]; exact Nat.le_refl _)
  have HS3 := Lib.hid s3; have HZ3 := Lib.hid z3; have HO3 := Lib.hid o3; have HK3 := Lib.hid k3
  clear s3 g3 z3 o3 k3 HO1 HK1 S1 z1
  go_wp2
  go_loopg [4, 5] c (fun k out nn wr => ∃ (vs : List Int) (rd : Option Addr) (rc : Nat), k ≤ 4 ∧ nn = .int .i64 k ∧ out = .slice rd vs.length rc ∧ Hid (Own wr (sb + 1) rd rc vs) ∧ vs.length + k ≤ 5 ∧ Hid (∀ z ∈ vs, 0 ≤ z ∧ z ≤ 30) ∧ 0 < vs.sum ∧
      Hid (SrcAt wr sb ad cap zs (6 - k)) ∧ Hid (Keep w wr) ∧ sb + 1 ≤ wr.heap.size)
  case atStart =>
    exact ⟨[1 + r], _, _, by omega, rfl, rfl, HO3, by simp; omega, Lib.hid (fun z hz => by simp at hz; subst hz; omega), by simp; omega, Lib.hid (HS3.out.more (by omega)), HK3, by omega⟩
  case round =>
    obtain ⟨vs, rd, rc, hk4, rfl, rfl, HO, hvl, HV, hvs, HSR, HK, hsz⟩ := hrel
    by_cases hpos : 0 < gk
    · have hp0 : (0 : Int) < gk := by omega
      go_wp2_with fail
      refine (pick_any sb ad cap zs (6 - gk) 30 _ HSR.out (hz.keep HK.out (Nat.le_refl _)) (by omega) (by omega) (by omega)).mono ?_
      rintro e w4 ⟨x, x0, x1, rfl, s4, g4, e4⟩
      have o4 := HO.out.beside g4 (by omega)
      have k4 := below_beside HK.out g4 HK.out.size (by rw [HSB.out]; exact Nat.le_refl _)
      have HS4 := Lib.hid s4; have HO4 := Lib.hid o4; have HK4 := Lib.hid k4
      have hs4 : wr.heap.size ≤ w4.heap.size := by omega
      clear s4 g4 o4 k4 e4
      go_wp2_with (refine list_app1 (by rfl) _ _ (by rfl) (sb + 1) rd rc vs.length _ x (by rfl) (HO4.out.keep (by go_grown)) rfl w4.heap.size (by rfl) (by simp) ⟨by omega, by omega⟩ (by omega) (by simp; omega) ?_; intro ad' cap' w5 hown5 hgr5; have hbel5 : Below (sb + 1) w4 w5 := below_own (by go_grown) (HO4.out.keep (by go_grown)) hgr5 (by simp; omega) (Nat.le_refl _))
      go_roundg (gk - 1)
      case measure => omega
      case rel =>
        have hws : w.heap.size ≤ sb + 1 := by rw [HSB.out]; omega
        have h5 := hbel5.size
        refine ⟨vs ++ [x], ad', cap', by omega, by go_num, by simp, Lib.hid hown5, by simp; omega, Lib.hid (fun z hz => ?_), ?_, Lib.hid (((HS4.out.more (by omega)).keep hbel5 (by omega))), Lib.hid (Below.trans HK4.out (hbel5.mono hws)), by omega⟩
        · rcases List.mem_append.1 hz with h | h
          · exact HV.out z h
          · simp at h; subst h; omega
        · rw [List.sum_append, List.sum_cons, List.sum_nil]; omega
    · have h0 : gk = 0 := by omega
      subst h0
      have hws : w.heap.size ≤ sb + 1 := by rw [HSB.out]; omega
      have hok : okVotes vs = true := by
        unfold okVotes allB
        rw [decide_eq_true (by omega), decide_eq_true hvs, Bool.true_and, Bool.and_true, List.all_eq_true]
        intro z hz; have := HV.out z hz; rw [inB_iff]; omega
      have HOK := Lib.hid hok
      go_wp2
      go_ret
      exact ⟨vs, rd, rc, rfl, HO.out.mono hws, HOK.out, HK.out⟩
end Go.Proofs.Ytgpjjgfechjbfaa
