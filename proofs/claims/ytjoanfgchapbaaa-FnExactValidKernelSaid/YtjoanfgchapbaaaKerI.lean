/- ValidKernel: the program's look at a kernel. -/
import Derived.Test.YtjoanfgchapbaaaKer9
namespace Go.Proofs.Ytjoanfgchapbaaa
open Go.ChangeShapes Go.WideShapes Go.ChangeAt Go.RowKit Go.Deep Go.Maps Go.WideMaps
set_option linter.unusedVariables false
theorem cell_grown {w1 w2 : World} {b g o : Nat} {v : Value} (h : w1.grownBy w2 (some b)) (hne : g ≠ b) (hc : w1.cell? ⟨g, o, none⟩ = some v) : w2.cell? ⟨g, o, none⟩ = some v := by
  have hb := h.block g (World.block_lt_of_cell? _ _ hc) (fun e => hne (by cases e; rfl))
  unfold World.cell? at hc ⊢
  rw [hb]; exact hc
set_option maxHeartbeats 3200000 in
set_option maxRecDepth 100000 in
theorem ValidKernel_any (g : Int) (ad : Option Addr) (cap n : Nat) (zs : List Int) (w : World) (hz : Ints w ad zs) (hl : zs.length = 3 * n) (hs : n ≤ 1048576) :
    Calls Try.prog 37 #[valV g ad n cap] w fun e w' => e = .returned (.bool (krB g n zs)) ∧ Keep w w' := by
  have hmm := @run_makeMap Try.prog
  have HW := Lib.hid (fun W => within_any g 1 64 W)
  unfold valV
  cases hb : inB g 1 64
  · rw [show krB g n zs = false from by simp [krB, hb]]
    rw [hb] at HW
    clear hmm
    go_enter Try.func37, Try.ntmps37
    go_wp2_with fail
    refine (HW.out _).mono ?_
    rintro e w1 ⟨rfl, rfl⟩
    go_wp2
    go_ret
    exact ⟨rfl, by go_grown⟩
  rw [hb] at HW
  by_cases h12 : n ≤ 12
  case neg =>
    rw [show krB g n zs = false from by simp [krB, h12]]
    clear hmm
    go_enter Try.func37, Try.ntmps37
    go_wp2_with fail
    refine (HW.out _).mono ?_
    rintro e w1 ⟨rfl, rfl⟩
    go_wp2
    go_ret
    exact ⟨rfl, by go_grown⟩
  have hg := inB_iff.1 hb
  have HNO := Lib.hid (fun (k : Nat) (h : k < n) (e : okT g zs k = false) => kr_no (g := g) h e)
  have HYES := Lib.hid (fun h => kr_yes (n := n) (zs := zs) hb h12 h)
  have HBD := Lib.hid (fun k h => sumT_bd (g := g) (zs := zs) hg.2 k h)
  have HTRI := Lib.hid (fun k (h : k < n) => tri_in64 (k := k) hz.wf hl h)
  have HT := Lib.hid (fun d r p W => isTap_any d r p g W)
  generalize krB g n zs = V at *
  have HZ := Lib.hid hz
  clear hz hb
  obtain ⟨W0, hW0⟩ : ∃ W0, W0 = w.alloc (.cells #[.int .i64 g, .slice ad n cap] 51) := ⟨_, rfl⟩
  have hs0 : W0.heap.size = w.heap.size + 1 := by rw [hW0]; simp
  have hK0 : Keep w W0 := by rw [hW0]; go_grown
  have q0 : W0.cell? ⟨w.heap.size, 0, none⟩ = some (.int .i64 g) := by rw [hW0]; simp
  have q1 : W0.cell? ⟨w.heap.size, 1, none⟩ = some (.slice ad n cap) := by rw [hW0]; simp
  have HM0 : Hid ((W0.alloc (.map #[] 0)).ownsMap Try.prog 98 (plainElem (H := Unit) Try.prog 4) (w.heap.size + 1) 0 (.map [])) := Lib.hid (by rw [← hs0]; exact World.ownsMap_made _ _ _ _)
  go_enter Try.func37, Try.ntmps37
  go_wp2_with fail
  rw [← hW0]
  refine (HW.out _).mono ?_
  rintro e w1 ⟨rfl, rfl⟩
  clear hW0
  go_wp2
  go_loopg [3, 22] n (fun kk s i wr => ∃ k : Nat, k ≤ n ∧ kk = n - k ∧ i = .int .i64 k ∧ s = .int .i64 (sumT zs k) ∧ (∃ D, Hid (wr.ownsMap Try.prog 98 (plainElem (H := Unit) Try.prog 4) (w.heap.size + 1) k D) ∧ Hid (Knows D zs k)) ∧ Hid (∀ j, j < k → okT g zs j = true) ∧ Hid (Keep W0 wr))
  case atStart => exact ⟨0, Nat.zero_le _, rfl, rfl, rfl, ⟨_, HM0, Lib.hid (Knows.start zs)⟩, Lib.hid (fun j h => absurd h (Nat.not_lt_zero _)), Lib.hid (by go_grown)⟩
  case round =>
    obtain ⟨k, hk, rfl, rfl, rfl, ⟨D, HO, HD⟩, HA, HK⟩ := hrel
    have r0 := (HK.out.cell (p := ⟨w.heap.size, 0, none⟩) (by show w.heap.size < _; omega)).trans q0
    have r1 := (HK.out.cell (p := ⟨w.heap.size, 1, none⟩) (by show w.heap.size < _; omega)).trans q1
    have hB1 := HO.out.lt
    have hw1 : w.heap.size < wr.heap.size := by omega
    by_cases hlt : k < n
    · rcases (HZ.out.keep (hK0.next HK.out) (Nat.le_refl _)).at_ with h | ⟨b, off, rfl, hb1, hc⟩
      · rw [h] at hl; simp at hl; omega
      have x0 := hc (k * 3) (by omega); have x1 := hc (k * 3 + 1) (by omega); have x2 := hc (k * 3 + 2) (by omega)
      rw [← Nat.add_assoc] at x1 x2
      clear hc
      obtain ⟨u0, u1, u2⟩ := HTRI.out k hlt
      have HBk := HBD.out k HA.out
      have HNk := Lib.hid (HNO.out k hlt)
      have HOK : Hid (okT g zs k = (tapB g (zs.getD (k * 3) 0) (zs.getD (k * 3 + 1) 0) (zs.getD (k * 3 + 2) 0) && !seenB zs k (zs.getD (k * 3) 0) (zs.getD (k * 3 + 1) 0))) := Lib.hid rfl
      have HSM : Hid (sumT zs (k + 1) = sumT zs k + zs.getD (k * 3 + 2) 0) := Lib.hid rfl
      have HSN := Lib.hid (HD.out _ _ u0 u1)
      have HNX := Lib.hid (fun (h : IsMap D) => HD.out.next h u0 u1)
      have HKEY := Lib.hid (keyL_of u0 u1)
      have HPT := Lib.hid (fun (h : okT g zs k = true) => okT_part h)
      generalize seenB zs k (zs.getD (k * 3) 0) (zs.getD (k * 3 + 1) 0) = sn at *
      generalize keyL (zs.getD (k * 3) 0) (zs.getD (k * 3 + 1) 0) = kl at *
      generalize zs.getD (k * 3) 0 = z0 at *
      generalize zs.getD (k * 3 + 1) 0 = z1 at *
      generalize zs.getD (k * 3 + 2) 0 = z2 at *
      generalize sumT zs k = S at *
      have HTk := Lib.hid (fun W => HT.out z0 z1 z2 W)
      generalize tapB g z0 z1 z2 = tb at *
      cases tb
      · have HV : Hid (V = false) := Lib.hid (HNk.out (by rw [HOK.out]; rfl))
        go_wp2_with fail
        refine (HTk.out _).mono ?_
        rintro e w1 ⟨rfl, k1⟩
        go_wp2
        go_ret
        exact ⟨ret_bool HV.out.symm, hK0.next (HK.out.next (Keep.next (by go_grown) k1))⟩
      · go_wp2_with fail
        refine (HTk.out _).mono ?_
        rintro e w1 ⟨rfl, k1⟩
        have hown1 := ((HO.out.alloc _).alloc _).kept (keep_grown k1 none) (by simp)
        obtain ⟨v, ps, hrun, hv⟩ := hown1.lookup Try.lawK Try.underlying95 (z := .bool false) (by kernel_rfl) (plainElem_bool Try.underlying4 false) HKEY.out
        rw [HSN.out] at hv
        obtain rfl := plainElem_bool_inv Try.underlying4 hv
        clear hv
        have k1t : Keep (wr.alloc (.cells #[.int .i64 z0, .int .i64 z1, .int .i64 z2] 97)) w1 := Keep.next (by go_grown) k1
        have y0 : w1.cell? ⟨wr.heap.size, 0, none⟩ = some (.int .i64 z0) := (k1t.cell (by simp)).trans (by simp [go_sem])
        have y1 : w1.cell? ⟨wr.heap.size, 1, none⟩ = some (.int .i64 z1) := (k1t.cell (by simp)).trans (by simp [go_sem])
        have y2 : w1.cell? ⟨wr.heap.size, 2, none⟩ = some (.int .i64 z2) := (k1t.cell (by simp)).trans (by simp [go_sem])
        have a0 : w1.cell? ⟨wr.heap.size + 1, 0, none⟩ = some (.int .i64 z0) := (k1.cell (by simp)).trans (by simp [go_sem])
        have a1 : w1.cell? ⟨wr.heap.size + 1, 1, none⟩ = some (.int .i64 z1) := (k1.cell (by simp)).trans (by simp [go_sem])
        have kk : Keep wr w1 := Keep.next (by go_grown) k1
        cases sn
        · have HV1 := Lib.hid (fun (h : okT g zs k = false) => HNk.out h)
          have hok : okT g zs k = true := by rw [HOK.out]; rfl
          have hpt := HPT.out hok
          have V1 : IntKind.i64.wrap (S + z2) = S + z2 := IntWalk.i64_in _ (by omega)
          have hne : wr.heap.size ≠ w.heap.size + 1 := by omega
          have hlt1 := y2
          go_wp2_with (first
            | (at_mapUpdate; refine wpList_mapUpdate_own _ rfl _ _ _ 95 rfl 98 4 Try.lawK Try.underlying95 (plainElem (H := Unit) Try.prog 4) (w.heap.size + 1) k _ rfl hown1 (by unfold maxLen; omega) _ _ _ rfl rfl HKEY.out _ [] (plainElem_bool Try.underlying4 true) ?_; intro w2 hown2 hgrow2; have y3 : w2.cell? ⟨wr.heap.size, 2, none⟩ = some (.int .i64 z2) := (cell_grown hgrow2 hne y2))
            | go_in)
          go_roundg (n - (k + 1))
          case measure => omega
          case rel => exact ⟨k + 1, by omega, rfl, by go_num, by rw [HSM.out], ⟨_, Lib.hid hown2, Lib.hid (HNX.out HO.out.isMap)⟩, Lib.hid (fun j h => if e : j < k then HA.out j e else (by rw [show j = k by omega]; exact hok)), Lib.hid (((HK.out.next kk).grown hgrow2 (HK.out.next kk).size (fun j hj => by cases hj; omega)))⟩
        · have HV : Hid (V = false) := Lib.hid (HNk.out (by rw [HOK.out]; rfl))
          go_wp2
          go_ret
          exact ⟨ret_bool HV.out.symm, hK0.next (HK.out.next (Keep.next (by go_grown) kk))⟩
    · have hE : k = n := by omega
      subst hE
      have HV : Hid (V = decide (sumT zs k ≤ g)) := Lib.hid (HYES.out HA.out)
      generalize sumT zs k = S at *
      by_cases hle : S ≤ g
      · rw [decide_eq_true hle] at HV
        go_wp2
        go_ret
        exact ⟨ret_bool (by rw [HV.out]), hK0.next (HK.out.next (by go_grown))⟩
      · rw [decide_eq_false hle] at HV
        go_wp2
        go_ret
        exact ⟨ret_bool (by rw [HV.out]), hK0.next (HK.out.next (by go_grown))⟩
end Go.Proofs.Ytjoanfgchapbaaa
