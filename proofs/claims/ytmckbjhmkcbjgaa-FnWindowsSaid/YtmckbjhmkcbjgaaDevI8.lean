/- Deviations: the program's side. -/
import Derived.Test.YtmckbjhmkcbjgaaDev8
import Derived.Test.YtmckbjhmkcbjgaaTot
namespace Go.Proofs.Ytmckbjhmkcbjgaa
open Go.ChangeShapes Go.WideShapes Go.ChangeAt Go.RowKit Go.Deep
set_option linter.unusedVariables false
theorem devF_fill_set (d : List Int) (f : Nat → Int) (k : Int) (n : Nat) (h : n < d.length) (z : Value) :
    (vals ((devF d f k).take n) ++ List.replicate (d.length - n) z).set n (.int .i64 (d.sum * f n - k * d.getD n 0)) = vals ((devF d f k).take (n + 1)) ++ List.replicate (d.length - (n + 1)) z := by
  have e := fill_set (devF d f k) n (by rw [devF_len]; exact h) z
  rw [devF_len, devF_get d f k n h] at e
  exact e
theorem devF_fill_get (d : List Int) (f : Nat → Int) (k : Int) (n : Nat) (h : n < d.length) (z : Value) : (vals ((devF d f k).take n) ++ List.replicate (d.length - n) z)[n]? = some z := by
  have e := fill_get (devF d f k) n (by rw [devF_len]; exact h) z
  rw [devF_len] at e
  exact e
set_option maxHeartbeats 1600000 in
theorem deviationsAt_any (ad : Option Addr) (cap : Nat) (d : List Int) (f : Nat → Int) (k : Int) (w : World) (hz : Ints w ad d) (hok : okD d = true) (hf : ∀ i, i < d.length → 0 ≤ f i ∧ f i ≤ 260) (hk : 0 ≤ k ∧ k ≤ 260) :
    Calls Try.prog 57 #[.slice ad d.length cap, .agg (six f), .int .i64 k] w fun e w' =>
      e = .returned (.slice (some ⟨w.heap.size + 1, 0, none⟩) d.length d.length) ∧ Own w' (w.heap.size + 1) (some ⟨w.heap.size + 1, 0, none⟩) d.length (devF d f k) ∧ Keep w w' := by
  have hdl := hz.small
  have hp := okD_parts hok
  have h6 := hp.2.1
  have hD := okD_sum hok
  obtain ⟨i0, hi, hz0, hz1, hz2⟩ := info_parts Try.infoI
  have hb8 : i0.bytes * d.length ≤ 281474976710656 := by rw [hz2]; omega
  have hml : d.length ≤ maxLen := by unfold maxLen; omega
  have HIN := Lib.hid (devF_in hok hf hk)
  have HDM := Lib.hid hp.2.2.1
  have HF := Lib.hid hf
  have HLE := Lib.hid (devF_len d f k)
  have HTOT := Lib.hid (fun W (kk : Keep w W) => total_any ad cap d W (hz.keep kk (Nat.le_refl _)) (okD_sumb hok) (by omega))
  have HSET := Lib.hid (fun n h => devF_fill_set d f k n h (.int .i64 0))
  have HGET := Lib.hid (fun n h => devF_fill_get d f k n h (.int .i64 0))
  have A0 : Arr (w.alloc (.cells (six f) 65)) w.heap.size f := heap_alloc_new w _
  have K0 : Keep w (w.alloc (.cells (six f) 65)) := by go_grown
  have hs0 : (w.alloc (.cells (six f) 65)).heap.size = w.heap.size + 1 := by simp
  clear hf hp
  generalize devF d f k = E at *
  generalize hDs : d.sum = D at *
  clear hDs
  go_enter Try.func57, Try.ntmps57
  go_wp2_with fail
  refine (HTOT.out _ K0).mono ?_
  rintro e w1 ⟨rfl, rfl⟩
  generalize w.alloc (.cells (six f) 65) = W0 at *
  have HA0 := Lib.hid A0
  have HK0 := Lib.hid K0
  clear A0 K0
  obtain ⟨A, hA⟩ : ∃ A, A = w.heap.size := ⟨_, rfl⟩
  have HAe := Lib.hid hA
  rw [← hA] at hs0 HA0 ⊢
  clear hA
  go_wp2_with (at_make; refine wpList_make_full W0 rfl _ _ 24 rfl (A + 1) 2 i0 (.int .i64 0) 1 Try.underlying24 hi hz0 hz1 .i64 .i64 _ _ d.length rfl rfl rfl rfl hb8 hml (by omega) ?_)
  intro w0 hown0 hgrow0
  have hown0 : w0.ownsRow (A + 1) 2 1 (.slice (some ⟨A + 1, 0, none⟩) d.length d.length) d.length (List.replicate d.length (.int .i64 0)) := by simpa [Value.cells, toList_madeCells_one] using hown0
  have hk0 : Below (A + 1) W0 w0 := (Below.refl _ _).grown hgrow0 (by omega) (fun k h => by cases h)
  have HOB := Lib.hid hown0
  have HK1 := Lib.hid hk0
  clear hgrow0 hown0 hk0
  go_wp2
  go_loopw [9, 10, 18] (fun _ _ i wr => ∃ n : Nat, n ≤ d.length ∧ i = .int .i64 n ∧ Hid (wr.ownsRow (A + 1) 2 1 (.slice (some ⟨A + 1, 0, none⟩) d.length d.length) d.length (vals (E.take n) ++ List.replicate (d.length - n) (.int .i64 0))) ∧ Hid (Below (A + 1) W0 wr))
    (fun _ _ i _ => d.length - (intOf i).toNat)
  case atStart => exact ⟨0, Nat.zero_le _, rfl, Lib.hid (by simpa using HOB.out), HK1⟩
  case round =>
    obtain ⟨n, hn, rfl, HO, HK⟩ := hrel
    by_cases hlt : n < d.length
    · have HKW : Hid (Keep w wr) := Lib.hid (HK0.out.trans (HK.out.mono (by rw [HAe.out]; omega)))
      rcases (hz.keep HKW.out (Nat.le_refl _)).at_ with h | ⟨b, off, rfl, hb1, hc⟩
      · subst h; simp at hlt
      have q1 := hc n hlt
      have q2 := (HA0.out.keep HK.out (by omega)).cell n (by omega)
      have hdk := HDM.out n hlt
      have hfk := HF.out n hlt
      have hcy : wr.cell? ⟨A + 1, n, none⟩ = some (.int .i64 0) := by rw [HO.out.cellAt n (by omega), HGET.out n hlt]
      have hfy := HO.out.frozenAt n
      have HE := Lib.hid (HSET.out n hlt)
      have HST := Lib.hid (HO.out.stored n (.int .i64 (D * f n - k * d.getD n 0)))
      have hn6 : (n : Int) < 6 := by omega
      clear hc
      generalize d.getD n 0 = x at q1 hdk HE HST
      generalize f n = y at q2 hfk HE HST
      have m1 := mul_bd8 (D := D) (x := y) (by omega) (by omega)
      have m2 := mul_bd8 (D := k) (x := x) (by omega) (by omega)
      have V1 : IntKind.i64.wrap (D * y) = D * y := IntWalk.i64_in _ (by omega)
      have V2 : IntKind.i64.wrap (k * x) = k * x := IntWalk.i64_in _ (by omega)
      have V3 : IntKind.i64.wrap (D * y - k * x) = D * y - k * x := IntWalk.i64_in _ (by omega)
      go_wp2
      go_roundw
      case rel =>
        obtain ⟨s1, s2⟩ := HST.out
        rw [HE.out] at s1
        exact ⟨n + 1, by omega, by go_num, Lib.hid s1, Lib.hid (HK.out.setCell (Nat.le_refl _) _)⟩
      case measure => simp [intOf]; omega
    · have e := Lib.hid (show n = d.length by omega)
      go_wp2
      go_ret
      have h := HO.out
      rw [e.out, Nat.sub_self, List.replicate_zero, List.append_nil, ← HLE.out, List.take_length] at h
      refine ⟨congrArg (fun j => Ending.returned (Value.slice (some ⟨j + 1, 0, none⟩) d.length d.length)) HAe.out, ?_, HK0.out.trans (HK.out.mono (by rw [HAe.out]; omega))⟩
      rw [← HAe.out, ← HLE.out]
      exact ⟨h, by rw [HLE.out]; omega, fun z hz => by have := HIN.out z hz; exact ⟨by omega, by omega⟩⟩
set_option maxHeartbeats 1600000 in
theorem DeviationsOf_any (ad : Option Addr) (cap : Nat) (d : List Int) (bd : Option Addr) (bcap : Nat) (l : List Int) (w : World) (hz : Ints w ad d) (hl : Ints w bd l) :
    Calls Try.prog 20 #[.slice ad d.length cap, .slice bd l.length bcap] w fun e w' => ∃ rd rc rA rC, e = .returned (.tuple #[.slice rd (devV d l).length rc, .bool (seqO d l)]) ∧ OwnR w' w.heap.size rd rc rA rC (devV d l) ∧ Keep w w' := by
  have HSQ := Lib.hid (IsSequence_any ad cap d bd bcap l w hz hl)
  cases hq : seqO d l
  · rw [show devV d l = [] from by unfold devV; rw [hq]; rfl]
    rw [hq] at HSQ
    go_enter Try.func20, Try.ntmps20
    go_wp2_with (go_at_call 21; refine HSQ.out.mono ?_; rintro e w1 ⟨rfl, k1⟩)
    go_ret2
    exact ⟨none, 0, _, _, rfl, OwnR.nil _ _, k1⟩
  rw [hq] at HSQ
  rw [show devV d l = devs d l l.length from by unfold devV; rw [hq]; rfl]
  have hok := (seqO_parts hq).1
  have hp := okD_parts hok
  have hL := (seqO_len hq).2
  have hD := okD_sum hok
  have h6 := hp.2.1
  obtain ⟨i0, hi, hz0, hz1, hz2⟩ := info_parts Try.infoIS
  have hb8 : i0.bytes * l.length ≤ 281474976710656 := by rw [hz2]; omega
  have hml : l.length ≤ maxLen := by unfold maxLen; omega
  have HDA := Lib.hid (fun (k : Nat) (hk : k < l.length) (W : World) (kw : Keep w W) => deviationsAt_any ad cap d (cntI (l.take (k + 1))) ((k : Int) + 1) W (hz.keep kw (Nat.le_refl _)) hok (fun i _ => by have := cntI_bd l (k + 1) i (by omega); omega) (by omega))
  have HR := Lib.hid (fun (k : Nat) (hk : k < l.length) => rngB_at (seqO_parts hq).2.1 hk)
  have HCS := Lib.hid (fun (k i : Nat) (h : k < l.length) => cntI_succ l k i h)
  have HCB := Lib.hid (fun (k i : Nat) (h : k ≤ l.length) => cntI_bd l k i h)
  have HDL := Lib.hid (devs_len d l l.length)
  have HDG := Lib.hid (devs_get d l l.length)
  have HDT := Lib.hid (devs_tot d l l.length)
  have HFL := Lib.hid (devF_len d)
  have HHL := Lib.hid (hl)
  have hlen := hl.small
  clear hq hok hp hD
  generalize devs d l l.length = E at *
  go_enter Try.func20, Try.ntmps20
  go_wp2_with fail
  refine HSQ.out.mono ?_
  rintro e w1 ⟨rfl, k1⟩
  have HK1 := Lib.hid k1
  have hs1 := k1.size
  clear k1
  obtain ⟨W0, hW0⟩ : ∃ W0, W0 = w1.alloc (.cells #[.int .i64 0, .int .i64 0, .int .i64 0, .int .i64 0, .int .i64 0, .int .i64 0] 65) := ⟨_, rfl⟩
  have HA0 : Hid (Arr W0 w1.heap.size (fun _ => 0)) := Lib.hid (by rw [hW0]; exact Arr.new w1)
  have HK0 : Hid (Keep w1 W0) := Lib.hid (by rw [hW0]; go_grown)
  have hs0 : W0.heap.size = w1.heap.size + 1 := by rw [hW0]; simp
  obtain ⟨A, hA⟩ : ∃ A, A = w1.heap.size := ⟨_, rfl⟩
  have HAe := Lib.hid hA
  rw [← hA] at hs0 HA0
  go_wp2_with (at_make; rw [← hW0, ← hA]; refine wpList_make_full W0 rfl _ _ 31 rfl (A + 1) 24 i0 (.slice none 0 0) 1 Try.underlying31 hi hz0 hz1 .i64 .i64 _ _ l.length rfl rfl rfl rfl hb8 hml (by omega) ?_)
  intro w0 hown0 hgrow0
  rw [← hW0] at hgrow0
  rw [← hA] at hown0 ⊢
  have hown0 : w0.ownsRow (A + 1) 24 1 (.slice (some ⟨A + 1, 0, none⟩) l.length l.length) l.length (List.replicate l.length (.slice none 0 0)) := by simpa [Value.cells, toList_madeCells_one] using hown0
  have hk0 : Below (A + 1) W0 w0 := (Below.refl _ _).grown hgrow0 (by omega) (fun k h => by cases h)
  have hlt0 : A + 1 < w0.heap.size := by
    rcases own_block hown0 with ⟨h, _⟩ | ⟨g, h, _, h2, _⟩
    · cases h
    · simp at h; omega
  have HOB := Lib.hid hown0
  have HKB := Lib.hid hk0
  have HAA : Hid (Arr w0 A (fun _ => 0)) := Lib.hid (HA0.out.keep hk0 (by omega))
  have HKA : Hid (Below A w1 w0) := Lib.hid (by
    have h1 : Below A w1 W0 := by rw [hA]; exact HK0.out
    exact h1.trans (hk0.mono (by omega)))
  clear hgrow0 hown0 hk0 hW0 hA
  go_wp2
  go_loopw [8, 9, 19] (fun _ _ i wr => ∃ (k : Nat) (G : Nat → Nat), k ≤ l.length ∧ i = .int .i64 k ∧ Hid (Arr wr A (cntI (l.take k))) ∧ Hid (wr.ownsRow (A + 1) 24 1 (.slice (some ⟨A + 1, 0, none⟩) l.length l.length) l.length (rowsV G E k ++ List.replicate (l.length - k) (.slice none 0 0))) ∧
      Hid (∀ j, j < k → Own wr (A + 1 + 1) (some ⟨G j, 0, none⟩) (E.getD j []).length (E.getD j [])) ∧ Hid (∀ i j, i < j → j < k → G i < G j) ∧ A + 1 < wr.heap.size ∧ Hid (Below A w1 wr))
    (fun _ _ i _ => l.length - (intOf i).toNat)
  case atStart => exact ⟨0, fun _ => 0, Nat.zero_le _, rfl, Lib.hid (HAA.out.same (fun i _ => by rw [List.take_zero, cntI_nil])), Lib.hid (by simpa [rowsV] using HOB.out), Lib.hid (fun j h => by omega), Lib.hid (fun i j h h2 => by omega), hlt0, HKA⟩
  case round =>
    obtain ⟨k, G, hk, rfl, HA, HO, HEA, HRI, hlt1, HK⟩ := hrel
    by_cases hlt : k < l.length
    · have HKW : Hid (Keep w wr) := Lib.hid (by have h := HK.out; rw [HAe.out] at h; exact HK1.out.next h)
      rcases (HHL.out.keep HKW.out (Nat.le_refl _)).at_ with h | ⟨b, off, rfl, hb1, hc⟩
      · subst h; simp at hlt
      have hcx := hc k hlt
      have hr := HR.out k hlt
      have HS := Lib.hid (fun i => HCS.out k i hlt)
      clear hc
      generalize l.getD k 0 = xi at hcx hr HS
      obtain ⟨x, rfl⟩ : ∃ x : Nat, xi = x := ⟨xi.toNat, by omega⟩
      have hx6 : x < 6 := by omega
      have hx6i : (x : Int) < 6 := by omega
      have hcy := HA.out.cell x hx6
      have hfy := HA.out.frozen x
      have HST := Lib.hid (HA.out.set x hx6 (cntI (l.take k) x + 1))
      have hcc := HCB.out k x (by omega)
      have HE : Hid (∀ i, i < 6 → (if i = x then cntI (l.take k) x + 1 else cntI (l.take k) i) = cntI (l.take (k + 1)) i) := Lib.hid (fun i _ => by
        rw [HS.out i]
        by_cases c : i = x
        · subst c; rw [if_pos rfl, if_pos rfl]
        · rw [if_neg c, if_neg (by omega), Int.add_zero])
      generalize cntI (l.take k) x = c at hcy hcc HST HE
      have V1 : IntKind.i64.wrap (c + 1) = c + 1 := IntWalk.i64_in _ (by omega)
      have V2 : IntKind.i64.wrap ((k : Int) + 1) = (k : Int) + 1 := IntWalk.i64_in _ (by omega)
      have hgl : Hid ((E.getD k []).length = d.length) := Lib.hid (by rw [HDG.out k hlt, HFL.out])
      have HF := Lib.hid (fun g => rowsV_fill G E l.length k g hlt (.slice none 0 0))
      have HG := Lib.hid (rowsV_get2 G E l.length k hlt (.slice none 0 0))
      go_upto_region 9 with fail
      refine code_wp_gen8 (fun W2 hW2 => ?_)
      have HA2 : Hid (Arr W2 A (cntI (l.take (k + 1)))) := Lib.hid (by rw [hW2]; exact HST.out.same HE.out)
      have hs2 : W2.heap.size = wr.heap.size := by rw [hW2]; simp
      have HW2 : Hid (Wrote wr W2 (fun j => j = A)) := Lib.hid (by
        rw [hW2]
        exact ⟨rfl, rfl, rfl, by simp, fun j hj hn => heap_setCell_other _ _ _ _ (by exact hn)⟩)
      clear hW2 hcy hfy HST hcx
      have HO2 : Hid (W2.ownsRow (A + 1) 24 1 (.slice (some ⟨A + 1, 0, none⟩) l.length l.length) l.length (rowsV G E k ++ List.replicate (l.length - k) (.slice none 0 0))) := Lib.hid (row_same HO.out (fun g e hg => HW2.out.block g hg (by cases e; omega)))
      have HEA2 : Hid (∀ j, j < k → Own W2 (A + 1 + 1) (some ⟨G j, 0, none⟩) (E.getD j []).length (E.getD j [])) := Lib.hid (fun j hj => (HEA.out j hj).wrote HW2.out (fun b e hb => by
        rcases own_block (HEA.out j hj).1 with ⟨h, _⟩ | ⟨g, h, h2, _⟩
        · cases h
        · cases e; first | (simp at h; done) | (simp at h; omega)))
      have HK2 : Hid (Below A w1 W2) := Lib.hid (below_wrote HK.out HW2.out (by omega) (fun j e => by omega))
      have HC2 := Lib.hid (HDA.out k hlt W2 (by have h := HK2.out; rw [HAe.out] at h; exact HK1.out.next h))
      rw [hs2] at HC2
      have a0 := HA2.out.cell 0 (by omega); have a1 := HA2.out.cell 1 (by omega); have a2 := HA2.out.cell 2 (by omega); have a3 := HA2.out.cell 3 (by omega); have a4 := HA2.out.cell 4 (by omega); have a5 := HA2.out.cell 5 (by omega)
      generalize hR : wr.heap.size = R at *
      go_wp2_with fail
      refine HC2.out.mono ?_
      rintro e w3 ⟨rfl, o3, k3⟩
      have H3 := Lib.hid o3
      have K3 : Hid (Keep W2 w3) := Lib.hid k3
      have hs3 := k3.size
      have hlt3 : R + 1 < w3.heap.size := by
        rcases own_block o3.1 with ⟨h, _⟩ | ⟨g, h, _, h2, _⟩
        · cases h
        · simp at h; omega
      clear o3 k3 a0 a1 a2 a3 a4 a5
      have HA3 : Hid (Arr w3 A (cntI (l.take (k + 1)))) := Lib.hid (HA2.out.keep K3.out (by omega))
      have hw3 := ownsRow_keep HO2.out K3.out
      have hcy : w3.cell? ⟨A + 1, k, none⟩ = some (.slice none 0 0) := by rw [hw3.cellAt k (by omega), HG.out]
      have hfy := hw3.frozenAt k
      have HST := Lib.hid (hw3.stored k (.slice (some ⟨R + 1, 0, none⟩) d.length d.length))
      have HZ : Hid (devF d (cntI (l.take (k + 1))) ((k : Int) + 1) = E.getD k []) := Lib.hid (HDG.out k hlt).symm
      rw [HZ.out] at H3
      clear hw3
      go_wp2
      go_roundw
      case rel =>
        obtain ⟨s1, s2⟩ := HST.out
        have f := HF.out (R + 1)
        rw [hgl.out] at f
        rw [f] at s1
        have hW4 : Wrote w3 (w3.setCell ⟨A + 1, k, none⟩ (.slice (some ⟨R + 1, 0, none⟩) d.length d.length)) (fun j => j = A + 1) := ⟨rfl, rfl, rfl, by simp, fun j hj hn => heap_setCell_other _ _ _ _ (by exact hn)⟩
        refine ⟨k + 1, fun j => if j = k then R + 1 else G j, by omega, by go_num, Lib.hid ((hW4.block A (by omega) (by omega)).trans HA3.out), Lib.hid s1, Lib.hid (fun j hj => ?_), Lib.hid (fun i j hij hj => ?_), by simp; omega, Lib.hid ((HK2.out.trans (K3.out.mono (by omega))).setCell (by exact Nat.le_succ A) _)⟩
        · show Own _ _ (some ⟨if j = k then R + 1 else G j, 0, none⟩) _ _
          by_cases hjk : j = k
          · subst hjk
            rw [if_pos rfl, hgl.out]
            exact (H3.out.mono (by omega)).wrote hW4 (fun b e hb => by cases e; omega)
          · rw [if_neg hjk]
            have o := (HEA2.out j (by omega)).keep K3.out
            refine o.wrote hW4 (fun b e hb => ?_)
            rcases own_block o.1 with ⟨h, _⟩ | ⟨g, h, h2, _⟩
            · cases h
            · cases e; first | (simp at h; done) | (simp at h; omega)
        · show (if i = k then R + 1 else G i) < (if j = k then R + 1 else G j)
          rw [if_neg (by omega)]
          by_cases hjk : j = k
          · rw [if_pos hjk]
            rcases own_block (HEA2.out i (by omega)).1 with ⟨h, _⟩ | ⟨g, h, _, h2, _⟩
            · cases h
            · simp at h; omega
          · rw [if_neg hjk]; exact HRI.out i j hij (by omega)
      case measure => simp [intOf]; omega
    · have he := Lib.hid (show k = l.length by omega)
      go_wp2
      go_ret2
      have e := he.out
      subst e
      refine ⟨some ⟨A + 1, 0, none⟩, l.length, fun j => some ⟨G j, 0, none⟩, fun j => (E.getD j []).length, congrArg (fun n => Ending.returned (Value.tuple #[.slice (some ⟨A + 1, 0, none⟩) n l.length, .bool true])) HDL.out.symm, ?_, ?_⟩
      · refine (OwnR.of_made (lo := A) (B := A + 1) (n := l.length) (by omega) HDL.out.symm (by rw [HDL.out]; omega) ?_ (by simpa using HO.out) (fun j hj => HEA.out j (by rw [HDL.out] at hj; exact hj)) (fun i j h1 h2 => HRI.out i j h1 (by rw [HDL.out] at h2; exact h2))).mono (by rw [HAe.out]; exact hs1)
        rw [HDT.out]
        have : l.length * d.length ≤ 240 * 6 := Nat.mul_le_mul hL h6
        omega
      · have h := HK.out; rw [HAe.out] at h; exact HK1.out.next h
end Go.Proofs.Ytmckbjhmkcbjgaa
