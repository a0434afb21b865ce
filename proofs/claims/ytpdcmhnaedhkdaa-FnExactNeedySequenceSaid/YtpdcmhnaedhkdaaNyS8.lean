/- The needy sequence: the model's side. -/
import Derived.Test.YtpdcmhnaedhkdaaNy8
import Derived.Test.YtpdcmhnaedhkdaaRowR
import Derived.Deep.Cut
import Derived.BigQuiet
namespace Go.Proofs.Ytpdcmhnaedhkdaa
open Go.ChangeShapes Go.WideShapes Go.ChangeAt Go.RowKit Go.Deep
set_option linter.unusedVariables false
set_option maxHeartbeats 6400000 in
set_option maxRecDepth 100000 in
theorem specNeedySequence_any (ad : Option Addr) (cap : Nat) (d : List Int) (w : World) (hz : Ints w ad d) :
    Calls Try.prog 14 #[.slice ad d.length cap] w fun e w' => ∃ rd rc, e = .returned (.tuple #[.slice rd (ndV d).length rc, .bool (okD d)]) ∧ Own w' w.heap.size rd rc (ndV d) ∧ Keep w w' := by
  have hdl := hz.small
  cases hok : okD d
  · rw [show ndV d = [] from by unfold ndV; rw [hok]; rfl]
    go_enter Try.func14, Try.ntmps14
    go_wp2_with (go_at_call 50; refine (l08Is_any _ _ _ _ hz).mono ?_; rw [hok]; rintro e w1 ⟨rfl, k1⟩)
    go_ret2
    exact ⟨none, 0, rfl, Own.nil _ _, k1⟩
  have hp := okD_parts hok
  have h6 := hp.2.1
  have h1 := hp.1
  have hD := okD_sum hok
  obtain ⟨N, hN⟩ : ∃ N : Nat, d.sum = N := ⟨d.sum.toNat, by omega⟩
  have HV : Hid (ndV d = ndL d N) := Lib.hid (by unfold ndV; rw [hok, if_pos rfl, hN, Int.toNat_natCast])
  have HOKL := Lib.hid (fun (k : Nat) (h : (k : Int) ≤ d.sum) => ndL_ok hok k h)
  have HNX := Lib.hid (fun (k : Nat) (h : (k : Int) < d.sum) => ndL_next hok k h)
  have HLN := Lib.hid (ndL_len d)
  have HDM := Lib.hid hp.2.2.1
  have HSU := Lib.hid (fun W (k : Keep w W) => l01Sum_any ad cap d W (hz.keep k (Nat.le_refl _)) (okD_sumb hok) (by omega))
  rw [hN] at HOKL HNX HSU
  have HN := Lib.hid hN
  have hN240 : N ≤ 240 := by omega
  have HSV := Lib.hid (l08Is_any ad cap d w hz)
  rw [hok] at HSV
  obtain ⟨i0, hi, hz0, hz1, hz2⟩ := info_parts Try.infoI
  have hb8 : i0.bytes * d.length ≤ 281474976710656 := by rw [hz2]; omega
  have hml : d.length ≤ maxLen := by unfold maxLen; omega
  clear hp hD hN hok
  rw [HV.out, HLN.out]
  go_enter Try.func14, Try.ntmps14
  go_wp2_with fail
  refine HSV.out.mono ?_
  rintro e w1 ⟨rfl, k1⟩
  have HD1 := Lib.hid (hz.keep k1 (Nat.le_refl _))
  have HK1 := Lib.hid k1
  go_wp2_with fail
  refine (HSU.out _ k1).mono ?_
  rintro e w' ⟨rfl, rfl⟩
  clear k1
  go_wp2_with (at_make; refine wpList_make_full w1 rfl _ _ 22 rfl w1.heap.size 2 i0 (.int .i64 0) 1 Try.underlying22 hi hz0 hz1 .i64 .i64 _ _ d.length rfl rfl rfl rfl hb8 hml (Nat.le_refl _) ?_)
  intro w0 hown0 hgrow0
  have hown0 : w0.ownsRow w1.heap.size 2 1 (.slice (some ⟨w1.heap.size, 0, none⟩) d.length d.length) d.length (List.replicate d.length (.int .i64 0)) := by simpa [Value.cells, toList_madeCells_one] using hown0
  have hk0 : Keep w1 w0 := (Below.refl _ _).grown hgrow0 (Nat.le_refl _) (fun k h => by cases h)
  clear hgrow0
  obtain ⟨cb, hcb⟩ : ∃ cb, cb = w1.heap.size := ⟨_, rfl⟩
  rw [← hcb] at hown0 ⊢
  have HCB := Lib.hid hcb
  have hcb0 : cb < w0.heap.size := by
    rcases own_block hown0 with ⟨_, h, _⟩ | ⟨g, e, _, h2, _⟩
    · omega
    · simp at e; omega
  clear hcb
  have o3 : Own (w0.alloc (.cells #[] 2)) (cb + 1) (some ⟨w0.heap.size, 0, none⟩) 0 [] := (Own.lit0 w0).mono (by omega)
  have k3 : Below w0.heap.size w0 (w0.alloc (.cells #[] 2)) := by go_grown
  have HO3 := Lib.hid o3
  have HC3 : Hid ((w0.alloc (.cells #[] 2)).ownsRow cb 2 1 (.slice (some ⟨cb, 0, none⟩) d.length d.length) d.length (vals (cntL d.length []))) := Lib.hid (by rw [cntL_nil]; exact ownsRow_keep hown0 k3)
  have HK3 : Hid (Keep w1 (w0.alloc (.cells #[] 2))) := Lib.hid (hk0.next k3)
  have hcb3 : cb < (w0.alloc (.cells #[] 2)).heap.size := by simp; omega
  have HCB3 := Lib.hid hcb3
  have hne0 := Lib.hid (show ∀ j, some (⟨w0.heap.size, 0, none⟩ : Addr) = some ⟨j, 0, none⟩ → j ≠ cb from fun j h => by cases h; omega)
  clear o3 k3 hown0 hk0 hcb0 hcb3 HSU HSV hb8 hml
  go_wp2_with fail
  go_loopg [6, 7, 8, 9] N (fun kk v k _ _ wr => ∃ (j : Nat) (od : Option Addr) (oc : Nat), j ≤ N ∧ kk = N - j ∧ k = .int .i64 ((j : Int) + 1) ∧ v = .slice od j oc ∧ Hid (Own wr (cb + 1) od oc (ndL d j)) ∧ Hid (wr.ownsRow cb 2 1 (.slice (some ⟨cb, 0, none⟩) d.length d.length) d.length (vals (cntL d.length (ndL d j)))) ∧
      Hid (∀ j, od = some ⟨j, 0, none⟩ → j ≠ cb) ∧ Hid (Keep w1 wr) ∧ cb < wr.heap.size)
  case atStart => exact ⟨0, _, _, Nat.zero_le _, rfl, rfl, rfl, HO3, HC3, hne0, HK3, HCB3.out⟩
  case round =>
    obtain ⟨j, od, oc, hjN, rfl, rfl, rfl, HO, HC, HAP, HK, hcbw⟩ := hrel
    by_cases hlt : j < N
    · have hle : ((j : Int) + 1) ≤ (N : Int) := by omega
      obtain ⟨b, hb, hbn, hbl⟩ := HNX.out j (by omega)
      have HOK := HOKL.out j (by omega)
      have HB := Lib.hid hb
      have HAPP := Lib.hid (show ndL d (j + 1) = ndL d j ++ [nbst d (cntI (ndL d j)) ((j : Int) + 1) d.length] from rfl)
      have hsum : d.sum = (N : Int) := HN.out
      have HCB2 := Lib.hid (fun i => cntI_bd (ndL d j) (ndL d j).length i (Nat.le_refl _))
      have HY : Hid (∀ i, nbst d (cntI (ndL d j)) ((j : Int) + 1) i = -1 ∨ ∃ b : Nat, nbst d (cntI (ndL d j)) ((j : Int) + 1) i = b ∧ b < i) := Lib.hid (fun i => by
        rcases nbst_ok d (cntI (ndL d j)) ((j : Int) + 1) i with h | ⟨b, h, h2, _⟩
        · exact .inl h.1
        · exact .inr ⟨b, h, h2⟩)
      have HFB := Lib.hid HOK.2
      have HYE := Lib.hid (fun i h => nbst_yes (d := d) (f := cntI (ndL d j)) (k := (j : Int) + 1) (i := i) h)
      have HNE := Lib.hid (fun i h => nbst_not (d := d) (f := cntI (ndL d j)) (k := (j : Int) + 1) (i := i) h)
      have HCC : Hid (∀ i, i < d.length → (vals (cntL d.length (ndL d j)))[i]? = some (.int .i64 (cntI (ndL d j) i))) := Lib.hid (fun i h => cntL_at _ _ i h)
      have HSET := Lib.hid (ndL_set hb hbn)
      clear HOK
      rcases HD1.out.at_ with h | ⟨db, doff, rfl, hdb, hdc⟩
      · subst h; simp at h1
      have HDC := Lib.hid hdc
      clear hdc
      have HNV : Hid (∀ i, ndv d (cntI (ndL d j)) ((j : Int) + 1) i = (N : Int) * cntI (ndL d j) i - ((j : Int) + 1) * d.getD i 0) := Lib.hid (fun i => by unfold ndv; rw [hsum])
      have HF0 : Hid (∀ i, 0 ≤ cntI (ndL d j) i) := Lib.hid (fun i => by
        have h := HCB2.out i
        rw [List.take_length] at h; exact h.1)
      clear HCB2
      generalize hf : cntI (ndL d j) = f at *
      have HFF := Lib.hid hf
      clear hf
      generalize wr = w4 at *
      go_wp2_with fail
      go_loopg [8, 9] d.length (fun kk be ii wq => ∃ i : Nat, i ≤ d.length ∧ kk = d.length - i ∧ ii = .int .i64 i ∧ be = .int .i64 (nbst d f ((j : Int) + 1) i) ∧ Hid (Keep w4 wq))
      case atStart => exact ⟨0, Nat.zero_le _, rfl, rfl, rfl, Lib.hid (Below.refl _ _)⟩
      case round =>
        obtain ⟨i, hid, rfl, rfl, rfl, HKQ⟩ := hrel
        by_cases hil : i < d.length
        · have hci : wr.cell? ⟨cb, i, none⟩ = some (.int .i64 (f i)) := by rw [HKQ.out.cell (by exact hcbw), HC.out.cellAt i (by omega), HCC.out i hil]
          have hdi : wr.cell? ⟨db, doff + i, none⟩ = some (.int .i64 (d.getD i 0)) := by rw [(HK.out.next HKQ.out).cell (by exact hdb)]; exact HDC.out i hil
          have hili : (i : Int) < (d.length : Int) := by omega
          have hfi := HFB.out i hil
          have hfi0 := HF0.out i
          have hdm := HDM.out i hil
          have HYi := HYE.out i
          have HNi := HNE.out i
          rw [HNV.out i] at HYi HNi
          have m1 := mul_bd8s (D := (N : Int)) (x := f i) (by omega) (by omega)
          have m2 := mul_bd8 (D := (j : Int) + 1) (x := d.getD i 0) (by omega) (by omega)
          generalize f i = x at *
          generalize d.getD i 0 = y at *
          have V1 : IntKind.i64.wrap ((N : Int) * x) = (N : Int) * x := IntWalk.i64_in _ (by omega)
          have V2 : IntKind.i64.wrap (((j : Int) + 1) * y) = ((j : Int) + 1) * y := IntWalk.i64_in _ (by omega)
          have V3 : IntKind.i64.wrap ((N : Int) * x - ((j : Int) + 1) * y) = (N : Int) * x - ((j : Int) + 1) * y := IntWalk.i64_in _ (by omega)
          by_cases hxy : x < y
          · rcases HY.out i with hm1 | ⟨b0, hm1, hb0⟩
            · have HR := Lib.hid (HYi ⟨hxy, .inl (by omega)⟩)
              rw [hm1]
              clear HYi HNi
              go_wp2
              go_quiet (fail)
              go_wp2
              go_roundg (d.length - (i + 1))
              case measure => omega
              case rel => exact ⟨i + 1, by omega, rfl, by go_num, by rw [HR.out], Lib.hid (below_drewN HKQ.out _)⟩
            · have hcb0 : wr.cell? ⟨cb, b0, none⟩ = some (.int .i64 (f b0)) := by rw [HKQ.out.cell (by exact hcbw), HC.out.cellAt b0 (by omega), HCC.out b0 (by omega)]
              have hdb0 : wr.cell? ⟨db, doff + b0, none⟩ = some (.int .i64 (d.getD b0 0)) := by rw [(HK.out.next HKQ.out).cell (by exact hdb)]; exact HDC.out b0 (by omega)
              have hb0i : (b0 : Int) < (d.length : Int) := by omega
              have hfb := HFB.out b0 (by omega)
              have hfb0 := HF0.out b0
              have hdmb := HDM.out b0 (by omega)
              have m3 := mul_bd8s (D := (N : Int)) (x := f b0) (by omega) (by omega)
              have m4 := mul_bd8 (D := (j : Int) + 1) (x := d.getD b0 0) (by omega) (by omega)
              have V4 : IntKind.i64.wrap ((N : Int) * f b0) = (N : Int) * f b0 := IntWalk.i64_in _ (by omega)
              have V5 : IntKind.i64.wrap (((j : Int) + 1) * d.getD b0 0) = ((j : Int) + 1) * d.getD b0 0 := IntWalk.i64_in _ (by omega)
              have V6 : IntKind.i64.wrap ((N : Int) * f b0 - ((j : Int) + 1) * d.getD b0 0) = (N : Int) * f b0 - ((j : Int) + 1) * d.getD b0 0 := IntWalk.i64_in _ (by omega)
              have hb0n : ¬ (b0 : Int) < 0 := by omega
              rw [hm1, Int.toNat_natCast, HNV.out b0] at HYi HNi
              have HM1 := Lib.hid hm1
              rw [hm1]
              clear hm1
              generalize f b0 = x0 at *
              generalize d.getD b0 0 = y0 at *
              by_cases hcmp : (N : Int) * x - ((j : Int) + 1) * y < (N : Int) * x0 - ((j : Int) + 1) * y0
              · have HR := Lib.hid (HYi ⟨hxy, .inr hcmp⟩)
                clear HYi HNi m1 m2 m3 m4
                go_wp2
                go_quiet (fail)
                go_wp2
                go_roundg (d.length - (i + 1))
                case measure => omega
                case rel => exact ⟨i + 1, by omega, rfl, by go_num, by rw [HR.out], Lib.hid (below_drewN HKQ.out _)⟩
              · have HR := Lib.hid (HNi (fun h => h.2.elim (fun h => by omega) hcmp))
                clear HYi HNi m1 m2 m3 m4
                go_wp2
                go_quiet (fail)
                go_wp2
                go_roundg (d.length - (i + 1))
                case measure => omega
                case rel => exact ⟨i + 1, by omega, rfl, by go_num, by rw [HR.out], Lib.hid (below_drewN HKQ.out _)⟩
          · have HR := Lib.hid (HNi (fun h => hxy h.1))
            have hxd : decide (x < y) = false := decide_eq_false hxy
            clear HYi HNi m1 m2
            go_wp2
            go_quiet (fail)
            go_wp2
            go_roundg (d.length - (i + 1))
            case measure => omega
            case rel => exact ⟨i + 1, by omega, rfl, by go_num, by rw [HR.out], Lib.hid (below_drewN HKQ.out _)⟩
        · have hile : i = d.length := by omega
          have hili : ¬ (i : Int) < (d.length : Int) := by omega
          have HBI : Hid (nbst d f ((j : Int) + 1) i = b) := Lib.hid (by rw [hile]; exact HB.out)
          rw [HBI.out]
          have HO4 := Lib.hid (HO.out.keep HKQ.out)
          have HC4 := Lib.hid (ownsRow_keep HC.out HKQ.out)
          have HK4 : Hid (Keep w1 wr) := Lib.hid (HK.out.next HKQ.out)
          have hcb4 : cb < wr.heap.size := by have := HKQ.out.size; omega
          have hcy : wr.cell? ⟨cb, b, none⟩ = some (.int .i64 (f b)) := by rw [HC4.out.cellAt b (by omega), HCC.out b hbn]
          have hfy := HC4.out.frozenAt b
          have HST := Lib.hid (HC4.out.stored b (.int .i64 (f b + 1)))
          have hfb0 := HF0.out b
          have hdmb := HDM.out b hbn
          have hbi : (b : Int) < (d.length : Int) := by omega
          have HCL : Hid (∀ k, k ≤ N → ∀ z ∈ cntL d.length (ndL d k), In64 z) := Lib.hid (fun k hk z hz => by
            obtain ⟨q, hq, rfl⟩ := List.mem_map.1 hz
            have h1 := (HOKL.out k (by omega)).2 q (List.mem_range.1 hq)
            have h2 := HDM.out q (List.mem_range.1 hq)
            have h3 := cntI_bd (ndL d k) (ndL d k).length q (Nat.le_refl _)
            rw [List.take_length] at h3
            exact ⟨by omega, by omega⟩)
          have HCN := Lib.hid (fun l => cntL_len d.length l)
          have HLJ := Lib.hid (HLN.out j)
          have HLJ1 := Lib.hid (HLN.out (j + 1))
          have HA1 : Hid (ndL d (j + 1) = ndL d j ++ [(b : Int)]) := Lib.hid (by rw [HAPP.out, HB.out])
          generalize f b = fb at *
          have V7 : IntKind.i64.wrap (fb + 1) = fb + 1 := IntWalk.i64_in _ (by omega)
          clear hile HY HYE HNE HCC HFB HF0 HNV HDC HAPP HBI
          go_upto_region 16 with fail
          refine code_wp_gen8 (fun W5 hW5 => ?_)
          have HC5 : Hid (Own W5 cb (some ⟨cb, 0, none⟩) d.length (cntL d.length (ndL d (j + 1)))) := Lib.hid (by
            have h := HST.out.1
            rw [HSET.out] at h
            rw [hW5]
            refine ⟨?_, by rw [HCN.out]; omega, HCL.out (j + 1) (by omega)⟩
            rw [HCN.out]; exact h)
          have HW5 : Hid (Wrote wr W5 (fun j => j = cb)) := Lib.hid (by
            rw [hW5]
            exact ⟨rfl, rfl, rfl, by simp, fun j hj hn => heap_setCell_other _ _ _ _ (by exact hn)⟩)
          have hs5 : W5.heap.size = wr.heap.size := by rw [hW5]; simp
          clear hW5 HST hcy hfy
          have HO5 : Hid (Own W5 (cb + 1) od oc (ndL d j)) := Lib.hid (HO4.out.wrote HW5.out (fun j e h => HAP.out j e h))
          have HK5 : Hid (Keep w1 W5) := Lib.hid (below_wrote HK4.out HW5.out HK4.out.size (fun j e => by have := HCB.out; omega))
          have hcb5 : cb < W5.heap.size := by omega
          clear hs5
          go_wp2_with (refine list_app2 (by rfl) _ _ (by rfl) (cb + 1) od oc j _ (b : Int) (by rfl) (HO5.out.keep (by go_grown)) HLJ.out.symm W5.heap.size (by rfl) (by simp) ⟨by omega, by omega⟩ (by rw [HLJ.out]; omega) (by simp; omega) ?_)
          intro g1 cap1 w6 hown6 hgr6 hat6 hlt6
          have HB6 : Hid (Below (cb + 1) W5 w6) := Lib.hid (below_own (by go_grown) (HO5.out.keep (by go_grown)) hgr6 (by simp; omega) (Nat.le_refl _))
          have HC6 : Hid (Own w6 cb (some ⟨cb, 0, none⟩) d.length (cntL d.length (ndL d (j + 1)))) := Lib.hid (Own.apart (HC5.out.keep (by go_grown)) ((HO5.out.keep (by go_grown)).mono (Nat.le_succ _)) hgr6 (fun j a b => HAP.out j b (by cases a; rfl)))
          have HO6 : Hid (Own w6 (cb + 1) (some ⟨g1, 0, none⟩) cap1 (ndL d (j + 1))) := Lib.hid (by rw [HA1.out]; exact hown6)
          have HAT6 : Hid (od = some ⟨g1, 0, none⟩ ∨ W5.heap.size ≤ g1) := Lib.hid (hat6.imp id (fun h => by first | omega | (simp at h; omega)))
          clear hown6 hgr6 hat6
          go_wp2
          go_roundg (N - (j + 1))
          case measure => omega
          case rel =>
            have h6s := HB6.out.size
            have hws : w1.heap.size ≤ cb + 1 := by rw [HCB.out]; omega
            refine ⟨j + 1, some ⟨g1, 0, none⟩, cap1, by omega, rfl, by go_num, rfl, HO6, Lib.hid (by have h := HC6.out.1; rw [HCN.out] at h; exact h), Lib.hid (fun q h => ?_), Lib.hid (HK5.out.trans (HB6.out.mono hws)), by omega⟩
            cases h
            rcases HAT6.out with h3 | h3
            · exact HAP.out g1 h3
            · omega
    · have hle : ¬ ((j : Int) + 1) ≤ (N : Int) := by omega
      have hjE : j = N := by omega
      subst hjE
      go_wp2
      go_ret2
      exact ⟨od, oc, rfl, HO.out.mono (by have := HK1.out.size; rw [HCB.out]; omega), HK1.out.next HK.out⟩
end Go.Proofs.Ytpdcmhnaedhkdaa
