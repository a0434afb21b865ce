/- The sequence that a law of chapter 8 draws. -/
import Derived.Test.YtmckbjhmkcbjgaaDr8
import Derived.Test.YtmckbjhmkcbjgaaSums
namespace Go.Proofs.Ytmckbjhmkcbjgaa
open Go.ChangeShapes Go.WideShapes Go.ChangeAt Go.RowKit Go.Deep
set_option linter.unusedVariables false
theorem vals_set8 (C : List Int) (x : Nat) (v : Int) : (vals C).set x (.int .i64 v) = vals (C.set x v) := by simp [vals, List.map_set]
theorem rem8 (x n : Nat) : ((x : Int) + 1).tmod (n : Int) = (((x + 1) % n : Nat) : Int) := by
  rw [Int.tmod_eq_emod_of_nonneg (by omega), Int.natCast_emod, Int.natCast_add, Int.natCast_one]
set_option maxHeartbeats 6400000 in
set_option maxRecDepth 100000 in
theorem R8Sequence_any (ad : Option Addr) (cap : Nat) (zs : List Int) (bd : Option Addr) (bcap : Nat) (d : List Int) (w : World) (hz : Bytes w ad zs) (hd : Ints w bd d) (hok : okD d = true) :
    Calls Try.prog 17 #[.slice ad zs.length cap, .slice bd d.length bcap] w fun e w' => ∃ (l : List Int) (rd : Option Addr) (rc : Nat), e = .returned (.slice rd l.length rc) ∧ Own w' w.heap.size rd rc l ∧ seqO d l = true ∧ Keep w w' := by
  have hp := okD_parts hok
  have hD := okD_sum hok
  have h6 := hp.2.1
  have h1 := hp.1
  have HDB := Lib.hid (okD_sumb hok)
  have HDL := Lib.hid (fun out C (h : Left d out C) hl => h.done hok hl)
  have HL0 := Lib.hid (Left.start hok)
  have HDM := Lib.hid hp.2.2.1
  obtain ⟨N, hN⟩ : ∃ N : Nat, d.sum = N := ⟨d.sum.toNat, by omega⟩
  have HNN := Lib.hid hN
  have hN240 : N ≤ 240 := by omega
  have S0 : SrcAt (w.alloc (.cells #[.slice ad zs.length cap, .int .i64 0, .int .u64 0] 89)) w.heap.size ad cap zs 0 :=
    ⟨by simp, ⟨0, Nat.le_refl _, by simp⟩, ⟨0, by omega, by omega, by simp⟩, by simp, by simp⟩
  have k0 : Keep w (w.alloc (.cells #[.slice ad zs.length cap, .int .i64 0, .int .u64 0] 89)) := by go_grown
  have z0 := hz.keep k0 (Nat.le_refl _)
  have hz0 : (w.alloc (.cells #[.slice ad zs.length cap, .int .i64 0, .int .u64 0] 89)).heap.size = w.heap.size + 1 := by simp
  have HA : Hid (∀ a o, ad = some ⟨a, o, none⟩ → zs ≠ [] → a ≠ w.heap.size) := Lib.hid (fun a o h hne => by
    rcases hz.at_ with h1 | ⟨a', o', h1, h2, _⟩
    · exact absurd h1 hne
    · rw [h1] at h; simp at h; omega)
  clear hp hok hD
  go_enter Try.func17, Try.ntmps17
  go_wp2_with fail
  refine (l00From_any ad cap zs.length w).mono ?_
  rintro e w0 ⟨rfl, rfl⟩
  generalize w.alloc (.cells #[.slice ad zs.length cap, .int .i64 0, .int .u64 0] 89) = w0 at *
  obtain ⟨sb, hsb⟩ : ∃ b, b = w.heap.size := ⟨_, rfl⟩
  rw [← hsb] at S0 hz0 HA
  rw [← hsb]
  have HSB := Lib.hid hsb; clear hsb
  have o1 : Own (w0.alloc (.cells #[] 2)) (sb + 1) (some ⟨sb + 1, 0, none⟩) 0 [] := by
    have h := Own.lit0 w0
    rw [hz0] at h; exact h
  have ka : Below w0.heap.size w0 (w0.alloc (.cells #[] 2)) := by go_grown
  have es : (w0.alloc (.cells #[] 2)).heap.size = sb + 2 := by simp; omega
  have HS1 := Lib.hid (S0.keep ka S0.lt)
  have HO1 := Lib.hid o1
  have HK1 : Hid (Keep w (w0.alloc (.cells #[] 2))) := Lib.hid (k0.trans (ka.mono k0.size))
  clear o1 ka k0 S0 z0
  go_wp2_with fail
  generalize w0.alloc (.cells #[] 2) = w2 at *
  refine (l00Own_any bd bcap d w2 (hd.keep HK1.out (Nat.le_refl _)) (by omega)).mono ?_
  rintro e w3 ⟨cd, cc, rfl, oc3, k3⟩
  rcases own_block oc3.1 with ⟨_, hd0, _⟩ | ⟨cb, rfl, hcb1, hcb2, _⟩
  · omega
  have HC3 := Lib.hid (oc3.mono (show sb + 1 ≤ w2.heap.size by omega))
  have HO3 := Lib.hid (HO1.out.keep k3)
  have HS3 := Lib.hid (HS1.out.keep k3 (by omega))
  have HK3 : Hid (Keep w w3) := Lib.hid (HK1.out.next k3)
  clear oc3 k3
  have HSU := Lib.hid (l01Sum_any bd bcap d w3 (hd.keep HK3.out (Nat.le_refl _)) HDB.out (by omega))
  rw [hN] at HSU
  clear hN
  go_wp2_with (go_at_call 53; refine HSU.out.mono ?_; rintro e w' ⟨rfl, rfl⟩)
  go_loopg [6, 8, 9] N (fun kk v k _ wr => ∃ (out C : List Int) (od : Option Addr) (oc : Nat), out.length ≤ N ∧ kk = N - out.length ∧ k = .int .i64 ((N - out.length : Nat) : Int) ∧ v = .slice od out.length oc ∧ Hid (Own wr (sb + 1) od oc out) ∧ Hid (Own wr (sb + 1) (some ⟨cb, 0, none⟩) cc C) ∧
      Hid (∀ j, od = some ⟨j, 0, none⟩ → j ≠ cb) ∧ Hid (Left d out C) ∧ Hid (SrcAt wr sb ad cap zs out.length) ∧ Hid (Keep w wr) ∧ cb < wr.heap.size)
  case atStart => exact ⟨[], d, _, _, by simp, by simp, by simp, rfl, HO3, HC3, Lib.hid (fun j h => by cases h; omega), HL0, HS3, HK3, hcb2⟩
  case round =>
    obtain ⟨out, C, od, oc, hol, rfl, rfl, rfl, HO, HC, HAP, HLE, HSR, HK, hcbw⟩ := hrel
    by_cases hpos : out.length < N
    · have hp0 : (0 : Int) < ((N - out.length : Nat) : Int) := by omega
      have hCl : C.length = d.length := HLE.out.1
      obtain ⟨y, hy, hCy⟩ := (sum_pos8 C (fun i hi => (HLE.out.2.1 i (by omega)).2)).2.1 (by have := HLE.out.2.2.1; have := HNN.out; omega)
      have hsbw : sb < wr.heap.size := HSR.out.lt
      have hzr := Lib.hid (hz.keep HK.out (Nat.le_refl _))
      go_wp2_with fail
      refine (pick_any sb ad cap zs out.length d.length _ HSR.out hzr.out (by omega) (by omega) (by omega)).mono ?_
      rintro e w4 ⟨x0, q0, q1, rfl, s4, g4, e4⟩
      obtain ⟨x0, rfl⟩ : ∃ q : Nat, x0 = q := ⟨x0.toNat, by omega⟩
      have HO4 : Hid (Own w4 (sb + 1) od oc out) := Lib.hid (HO.out.beside g4 (by omega))
      have HC4 : Hid (Own w4 (sb + 1) (some ⟨cb, 0, none⟩) cc C) := Lib.hid (HC.out.beside g4 (by omega))
      have HK4 : Hid (Keep w w4) := Lib.hid (below_beside HK.out g4 HK.out.size (by rw [HSB.out]; exact Nat.le_refl _))
      have HS4 := Lib.hid s4
      have hcb4 : cb < w4.heap.size := by omega
      obtain ⟨t0, ht0, hty⟩ := mod_start (x := x0) (y := y) (n := d.length) (by omega) (by omega)
      have HY := Lib.hid hty
      have HCY := Lib.hid hCy
      have HCA : Hid (∀ x, x < d.length → w4.cell? ⟨cb, x, none⟩ = some (.int .i64 (C.getD x 0))) := Lib.hid (fun x hx => by
        rw [HC4.out.1.cellAt x (by omega)]; simp [List.getD_eq_getElem?_getD, show x < C.length by omega])
      have hlv : (C.length : Int) = (d.length : Int) := by omega
      have HLV := Lib.hid hCl
      clear s4 g4 hty hCy hCl hlv
      go_wp2
      go_loopg [9] t0 (fun kk i wq => ∃ x : Nat, x < d.length ∧ kk < d.length ∧ i = .int .i64 x ∧ Hid ((x + kk) % d.length = y) ∧ w4 = wq)
      case atStart => exact ⟨x0, by omega, by omega, rfl, HY, rfl⟩
      case round =>
        obtain ⟨x, hx, hkk, rfl, HX, rfl⟩ := hrel
        have hcx := HCA.out x hx
        have hxi : (x : Int) < (d.length : Int) := by omega
        by_cases hc0 : C.getD x 0 = 0
        · have hk0 : 0 < gk := by
            by_cases c : 0 < gk
            · exact c
            · exfalso
              have e : gk = 0 := by omega
              have h := HX.out
              rw [e, Nat.add_zero, Nat.mod_eq_of_lt hx] at h
              subst h
              have := HCY.out; omega
          have HM := Lib.hid (mod_walk (x := x) (t := gk) (n := d.length) (by omega) hk0)
          have hmlt := Nat.mod_lt (x + 1) (show 0 < d.length by omega)
          have hrem := rem8 x d.length
          rw [hc0] at hcx
          have V1 : IntKind.i64.wrap ((x : Int) + 1) = (x : Int) + 1 := IntWalk.i64_in _ (by omega)
          generalize hm : (x + 1) % d.length = m at *
          have HMM := Lib.hid hm
          clear hm
          go_wp2
          go_roundg (gk - 1)
          case measure => omega
          case rel =>
            refine ⟨m, hmlt, by omega, ?_, Lib.hid (HM.out.trans HX.out), rfl⟩
            first
              | rfl
              | exact congrArg (Value.int .i64) hrem
              | (refine congrArg (Value.int .i64) ?_; rw [← HMM.out, Int.natCast_emod, Int.natCast_add, Int.natCast_one])
        · have hc1 : 1 ≤ C.getD x 0 := by have := (HLE.out.2.1 x hx).2; omega
          have hcm : C.getD x 0 ≤ 40 := by
            have h1 := (HLE.out.2.1 x hx).1
            have h2 := HDM.out x hx
            have h3 : 0 ≤ cntI out x := by have := cntI_bd out out.length x (Nat.le_refl _); rw [List.take_length] at this; exact this.1
            omega
          have HNL := Lib.hid (HLE.out.step hx hc1)
          have hfx := HC4.out.1.frozenAt x
          have HST := Lib.hid (HC4.out.1.stored x (.int .i64 (C.getD x 0 - 1)))
          have HIN2 : Hid (∀ z ∈ C.set x (C.getD x 0 - 1), In64 z) := Lib.hid (fun z hz => by
            rcases List.mem_or_eq_of_mem_set hz with h | h
            · exact HC4.out.2.2 z h
            · rw [h]; exact ⟨by omega, by omega⟩)
          have HCL2 : Hid ((C.set x (C.getD x 0 - 1)).length = C.length) := Lib.hid (by simp)
          generalize C.getD x 0 = cx at *
          have hce : (cx == 0) = false := by simp; omega
          have V2 : IntKind.i64.wrap (cx - 1) = cx - 1 := IntWalk.i64_in _ (by omega)
          go_upto_region 11 with fail
          refine code_wp_gen8 (fun W5 hW5 => ?_)
          have HC5 : Hid (Own W5 (sb + 1) (some ⟨cb, 0, none⟩) cc (C.set x (cx - 1))) := Lib.hid (by
            have h := HST.out.1
            rw [vals_set8] at h
            rw [hW5]
            refine ⟨?_, by rw [HCL2.out]; exact HC4.out.2.1, HIN2.out⟩
            rw [HCL2.out]; exact h)
          have HW5 : Hid (Wrote w4 W5 (fun j => j = cb)) := Lib.hid (by
            rw [hW5]
            exact ⟨rfl, rfl, rfl, by simp, fun j hj hn => heap_setCell_other _ _ _ _ (by exact hn)⟩)
          have hs5 : W5.heap.size = w4.heap.size := by rw [hW5]; simp
          clear hW5 HST hcx hfx
          have HO5 : Hid (Own W5 (sb + 1) od oc out) := Lib.hid (HO4.out.wrote HW5.out (fun j e h => HAP.out j e h))
          have HS5 : Hid (SrcAt W5 sb ad cap zs (out.length + 1)) := Lib.hid (by
            have hb := HW5.out.block sb (by omega) (by omega)
            obtain ⟨c0, ⟨tt, ht, c1⟩, ⟨u, hu, hu2, c2⟩, f1, f2⟩ := HS4.out
            exact ⟨(World.cell?_of_block (w := w4) hb).trans c0, ⟨tt, ht, (World.cell?_of_block (w := w4) hb).trans c1⟩, ⟨u, hu, hu2, (World.cell?_of_block (w := w4) hb).trans c2⟩, (World.frozen?_of_block (w := w4) hb).trans f1, (World.frozen?_of_block (w := w4) hb).trans f2⟩)
          have HK5 : Hid (Keep w W5) := Lib.hid (below_wrote HK4.out HW5.out HK4.out.size (fun j e => by have := HSB.out; omega))
          have hsb5 : sb + 1 ≤ W5.heap.size := by omega
          have hcb5 : cb < W5.heap.size := by omega
          clear hs5 e4
          go_wp2_with (refine list_app2 (by rfl) _ _ (by rfl) (sb + 1) od oc out.length _ (x : Int) (by rfl) (HO5.out.keep (by go_grown)) rfl W5.heap.size (by rfl) (by simp) ⟨by omega, by omega⟩ (by omega) (by simp; omega) ?_)
          intro g1 cap1 w6 hown6 hgr6 hat6 hlt6
          have HB6 : Hid (Below (sb + 1) W5 w6) := Lib.hid (below_own (by go_grown) (HO5.out.keep (by go_grown)) hgr6 (by simp; omega) (Nat.le_refl _))
          have HC6 : Hid (Own w6 (sb + 1) (some ⟨cb, 0, none⟩) cc (C.set x (cx - 1))) := Lib.hid (Own.apart (HC5.out.keep (by go_grown)) (HO5.out.keep (by go_grown)) hgr6 (fun j a b => HAP.out j b (by cases a; rfl)))
          have HO6 := Lib.hid hown6
          have HAT6 : Hid (od = some ⟨g1, 0, none⟩ ∨ W5.heap.size ≤ g1) := Lib.hid (hat6.imp id (fun h => by first | omega | (simp at h; omega)))
          clear hown6 hgr6 hat6
          go_wp2
          go_roundg (N - (out.length + 1))
          case measure => omega
          case rel =>
            have h6s := HB6.out.size
            have hws : w.heap.size ≤ sb + 1 := by rw [HSB.out]; omega
            refine ⟨out ++ [(x : Int)], C.set x (cx - 1), some ⟨g1, 0, none⟩, cap1, by simp; omega, by simp, ?_, by simp, HO6, HC6, Lib.hid (fun j h => ?_), HNL, Lib.hid (by
              have h := HS5.out.keep HB6.out (by omega)
              simpa using h), Lib.hid (HK5.out.trans (HB6.out.mono hws)), by omega⟩
            · refine congrArg (Value.int .i64) ?_
              simp
              omega
            · cases h
              rcases HAT6.out with h3 | h3
              · exact HAP.out g1 h3
              · omega
    · have h0 : out.length = N := by omega
      have hp0 : ((N - out.length : Nat) : Int) = 0 := by omega
      have HOK := Lib.hid (HDL.out out C HLE.out (by have := HNN.out; omega))
      have hws : w.heap.size ≤ sb + 1 := by rw [HSB.out]; omega
      rw [hp0]
      clear h0
      go_wp2
      go_ret
      exact ⟨out, od, oc, rfl, HO.out.mono hws, HOK.out, HK.out⟩
end Go.Proofs.Ytmckbjhmkcbjgaa
