/- Deviations: pure; the model's look. -/
import Derived.Test.YtmckbjhmkcbjgaaSeq8
import Derived.Test.YtmckbjhmkcbjgaaRowR
import Derived.Test.YtmckbjhmkcbjgaaSums
import Derived.Deep.DeepCutAuto
import Derived.Deep.RegionLaw
namespace Go.Proofs.Ytmckbjhmkcbjgaa
open Go.ChangeShapes Go.WideShapes Go.ChangeAt Go.RowKit Go.Deep
set_option linter.unusedVariables false
/-- Deviations where the products stand f times among k elements. -/
def devF (d : List Int) (f : Nat → Int) (k : Int) : List Int := (List.range d.length).map fun i => d.sum * f i - k * d.getD i 0
theorem devF_len (d : List Int) (f : Nat → Int) (k : Int) : (devF d f k).length = d.length := by simp [devF]
theorem devF_get (d : List Int) (f : Nat → Int) (k : Int) (i : Nat) (h : i < d.length) : (devF d f k).getD i 0 = d.sum * f i - k * d.getD i 0 := by
  unfold devF
  rw [List.getD_eq_getElem?_getD, List.getElem?_map, List.getElem?_range h]; rfl
theorem devF_same {d : List Int} {f g : Nat → Int} {k : Int} (h : ∀ i, i < d.length → f i = g i) : devF d f k = devF d g k := by
  unfold devF
  refine List.map_congr_left fun i hi => ?_
  rw [h i (List.mem_range.1 hi)]
/-- Deviations behind the first k + 1 elements, for all k below n. -/
def devs (d l : List Int) (n : Nat) : List (List Int) := (List.range n).map fun k => devF d (cntI (l.take (k + 1))) ((k : Int) + 1)
theorem devs_len (d l : List Int) (n : Nat) : (devs d l n).length = n := by simp [devs]
theorem devs_get (d l : List Int) (n k : Nat) (h : k < n) : (devs d l n).getD k [] = devF d (cntI (l.take (k + 1))) ((k : Int) + 1) := by simp [devs, List.getD_eq_getElem?_getD, h]
theorem devs_succ (d l : List Int) (n : Nat) : devs d l (n + 1) = devs d l n ++ [devF d (cntI (l.take (n + 1))) ((n : Int) + 1)] := by unfold devs; rw [List.range_succ, List.map_append]; rfl
theorem devs_tot (d l : List Int) : ∀ n, tot (devs d l n) = n * d.length := by
  intro n
  induction n with
  | zero => simp [devs, tot]
  | succ n ih => rw [devs_succ, tot_append, ih]; simp [tot, devF_len, Nat.succ_mul]
def devV (d l : List Int) : List (List Int) := if seqO d l then devs d l l.length else []
theorem cntI_take_le (l : List Int) (k i : Nat) : cntI (l.take k) i ≤ cntI l i := by
  unfold cntI
  have := (List.take_sublist k l).countP_le (p := fun z => decide (z = (i : Int)))
  omega
theorem cntI_dem {d l : List Int} (h : seqO d l = true) (i : Nat) (hi : i < d.length) : cntI l i = d.getD i 0 := by
  have h3 := (seqO_parts h).2.2
  rw [← cntL_get d.length l i hi, h3]
theorem mul_bd8 {D x : Int} (hD : 0 ≤ D ∧ D ≤ 260) (hx : 0 ≤ x ∧ x ≤ 260) : 0 ≤ D * x ∧ D * x ≤ 67600 := by
  have e1 : D * x ≤ 260 * 260 := Int.mul_le_mul hD.2 hx.2 hx.1 (by omega)
  exact ⟨Int.mul_nonneg hD.1 hx.1, by omega⟩
theorem mul_bd8s {D x : Int} (hD : 0 ≤ D ∧ D ≤ 240) (hx : 0 ≤ x ∧ x ≤ 40) : 0 ≤ D * x ∧ D * x ≤ 9600 := by
  have e1 : D * x ≤ 240 * 40 := Int.mul_le_mul hD.2 hx.2 hx.1 (by omega)
  exact ⟨Int.mul_nonneg hD.1 hx.1, by omega⟩
theorem devF_in {d : List Int} {f : Nat → Int} {k : Int} (hok : okD d = true) (hf : ∀ i, i < d.length → 0 ≤ f i ∧ f i ≤ 260) (hk : 0 ≤ k ∧ k ≤ 260) : ∀ z ∈ devF d f k, -67600 ≤ z ∧ z ≤ 67600 := by
  intro z hz
  unfold devF at hz
  obtain ⟨i, hi, rfl⟩ := List.mem_map.1 hz
  have hi := List.mem_range.1 hi
  have hs := okD_sum hok
  have hd := (okD_parts hok).2.2.1 i hi
  have e1 := mul_bd8 (D := d.sum) (x := f i) (by omega) (hf i hi)
  have e2 := mul_bd8 (D := k) (x := d.getD i 0) hk (by omega)
  show -67600 ≤ d.sum * f i - k * d.getD i 0 ∧ _
  omega
/-- The deviations of a sequence are small. -/
theorem devs_in {d l : List Int} (h : seqO d l = true) {k : Nat} (hk : k < l.length) : ∀ z ∈ devF d (cntI (l.take (k + 1))) ((k : Int) + 1), -9600 ≤ z ∧ z ≤ 9600 := by
  intro z hz
  obtain ⟨h1, h2, h3⟩ := seqO_parts h
  have h4 := seqO_len h
  unfold devF at hz
  obtain ⟨i, hi, rfl⟩ := List.mem_map.1 hz
  have hi := List.mem_range.1 hi
  have hs := okD_sum h1
  have hd := (okD_parts h1).2.2.1 i hi
  have hc := cntI_bd l (k + 1) i (by omega)
  have hc2 := cntI_take_le l (k + 1) i
  rw [cntI_dem h i hi] at hc2
  have e1 := mul_bd8s (D := d.sum) (x := cntI (l.take (k + 1)) i) (by omega) (by omega)
  have e2 := mul_bd8s (D := (k : Int) + 1) (x := d.getD i 0) (by omega) (by omega)
  show -9600 ≤ d.sum * cntI (l.take (k + 1)) i - ((k : Int) + 1) * d.getD i 0 ∧ _
  omega
theorem okD_sumb {d : List Int} (h : okD d = true) : ∀ z ∈ d, -1000000000 ≤ z ∧ z ≤ 1000000000 := fun z hz => by have := okD_mem h z hz; omega
theorem code_wp_gen8 {P : Program} {c : Code} {Q : Exit → Act → World → Prop} {a : Act} {W : World} (h : ∀ W2, W2 = W → Code.wp P c Q a W2) : Code.wp P c Q a W := h W rfl
theorem sum_of_get (c : List Int) (f : Nat → Int) (n : Nat) (hn : c.length = n) (h : ∀ i, i < n → c.getD i 0 = f i) : c = (List.range n).map f := by
  refine List.ext_getElem (by simp [hn]) fun i h1 h2 => ?_
  rw [List.getElem_map, List.getElem_range, ← h i (by omega), getD_get c i h1]
set_option maxHeartbeats 1600000 in
theorem l08Behind_any (ad : Option Addr) (cap : Nat) (d : List Int) (cd : Option Addr) (ccap : Nat) (c : List Int) (w : World) (hz : Ints w ad d) (hc : Ints w cd c) (hok : okD d = true) (hcl : c.length = d.length) (hb : ∀ z ∈ c, 0 ≤ z ∧ z ≤ 260) (hs : 0 ≤ c.sum ∧ c.sum ≤ 260) :
    Calls Try.prog 95 #[.slice ad d.length cap, .slice cd c.length ccap] w fun e w' => ∃ g rc, e = .returned (.slice (some ⟨g, 0, none⟩) d.length rc) ∧ Own w' w.heap.size (some ⟨g, 0, none⟩) rc (devF d (fun i => c.getD i 0) c.sum) ∧ Keep w w' := by
  have hdl := hz.small
  have hcs := hc.small
  have h6 := (okD_parts hok).2.1
  have HS1 := Lib.hid (fun W (k : Keep w W) => l01Sum_any ad cap d W (hz.keep k (Nat.le_refl _)) (okD_sumb hok) (by omega))
  have HS2 := Lib.hid (fun W (k : Keep w W) => l01Sum_any cd ccap c W (hc.keep k (Nat.le_refl _)) (fun z hz => by have := hb z hz; omega) (by omega))
  have hD := okD_sum hok
  have HIN := Lib.hid (devF_in (f := fun i => c.getD i 0) (k := c.sum) hok (fun i hi => hb _ (getD_mem c i (by omega))) hs)
  have HDM := Lib.hid (okD_parts hok).2.2.1
  have HB := Lib.hid hb
  have hlen := devF_len d (fun i => c.getD i 0) c.sum
  have HGT := Lib.hid (devF_get d (fun i => c.getD i 0) c.sum)
  have HCL := Lib.hid hcl
  have HE1 := Lib.hid (rfl : c.length = c.length)
  clear hb
  generalize hcn : c.length = cn at *
  clear hcl
  generalize devF d (fun i => c.getD i 0) c.sum = E at *
  generalize hDs : d.sum = D at *
  generalize hCs : c.sum = S at *
  have HLE := Lib.hid hlen
  clear hlen hDs hCs
  have HO0 := Lib.hid (show Own (w.alloc (.cells #[] 2)) w.heap.size (some ⟨w.heap.size, 0, none⟩) 0 [] from by
    have := World.ownsRow_lit (base := w.heap.size) (e := 2) (size := 1) w #[] 0 (by simp) (by simp) rfl
    exact ⟨by simpa using this, by simp, by simp⟩)
  have HK0 := Lib.hid (show Keep w (w.alloc (.cells #[] 2)) by go_grown)
  have hsz0 : w.heap.size < (w.alloc (.cells #[] 2)).heap.size := by simp
  have HSZ0 := Lib.hid hsz0
  clear hsz0
  go_enter Try.func95, Try.ntmps95
  go_wp2_with fail
  refine (HS1.out _ (by go_grown)).mono ?_
  rintro e w1 ⟨rfl, rfl⟩
  go_wp2_with fail
  refine (HS2.out _ (by go_grown)).mono ?_
  rintro e w1 ⟨rfl, rfl⟩
  go_wp2
  generalize w.alloc (.cells #[] 2) = wa at *
  obtain ⟨B0, hB0⟩ : ∃ B0, B0 = w.heap.size := ⟨_, rfl⟩
  have HB0 := Lib.hid hB0
  rw [← hB0] at HO0 HSZ0 ⊢
  clear hB0
  go_loopw [7, 8] (fun v i wr => ∃ (k g rc : Nat), k ≤ d.length ∧ i = .int .i64 k ∧ v = .slice (some ⟨g, 0, none⟩) k rc ∧ Hid (Own wr B0 (some ⟨g, 0, none⟩) rc (E.take k)) ∧ Hid (Keep w wr) ∧ B0 ≤ g ∧ g < wr.heap.size)
    (fun _ i _ => d.length - (intOf i).toNat)
  case atStart => exact ⟨0, B0, 0, Nat.zero_le _, rfl, rfl, Lib.hid (by simpa using HO0.out), Lib.hid HK0.out, Nat.le_refl _, HSZ0.out⟩
  case round =>
    obtain ⟨k, g, rc, hk, rfl, rfl, HO, HK, hgl, hgh⟩ := hrel
    by_cases hlt : k < d.length
    · rcases (hz.keep HK.out (Nat.le_refl _)).at_ with h | ⟨b, off, rfl, hb1, hc1⟩
      · subst h; simp at hlt
      have hclt : k < c.length := by rw [hcn, HCL.out]; exact hlt
      have hcni : (k : Int) < (cn : Int) := by have := HCL.out; omega
      rcases (hc.keep HK.out (Nat.le_refl _)).at_ with h | ⟨b2, off2, rfl, hb2, hc2⟩
      · subst h; simp at hclt
      have q1 := hc1 k hlt
      have q2 := hc2 k hclt
      have hdk := HDM.out k hlt
      have hck := HB.out _ (getD_mem c k hclt)
      have HEK := Lib.hid (HGT.out k hlt)
      have HT := Lib.hid (take_succ_getD E k (by rw [HLE.out]; exact hlt))
      have HKL : Hid ((E.take k).length = k) := Lib.hid (by rw [List.length_take, HLE.out]; omega)
      clear hc1 hc2
      generalize d.getD k 0 = x at q1 hdk HEK
      generalize hcg : c.getD k 0 = y at q2 hck
      have HEK2 : Hid (E.getD k 0 = D * y - S * x) := Lib.hid (by rw [HEK.out]; show D * c.getD k 0 - S * x = _; rw [hcg])
      clear hcg HEK
      have m1 := mul_bd8 (D := D) (x := y) (by omega) (by omega)
      have m2 := mul_bd8 (D := S) (x := x) (by omega) (by omega)
      have W1 : Hid (IntKind.i64.wrap (D * y) = D * y) := Lib.hid (IntWalk.i64_in _ (by omega))
      have W2 : Hid (IntKind.i64.wrap (S * x) = S * x) := Lib.hid (IntWalk.i64_in _ (by omega))
      have W3 : Hid (IntKind.i64.wrap (D * y - S * x) = D * y - S * x) := Lib.hid (IntWalk.i64_in _ (by omega))
      rw [HEK2.out] at HT
      have HS : Hid (∀ w', Keep wr w' → (w'.cell? ⟨b, off + k, none⟩ = some (.int .i64 x) ∧ w'.cell? ⟨b2, off2 + k, none⟩ = some (.int .i64 y)) ∧ Keep wr w') := Lib.hid (fun w' k1 => ⟨⟨by rw [k1.cell (by exact hb1)]; exact q1, by rw [k1.cell (by exact hb2)]; exact q2⟩, k1⟩)
      go_wp2
      go_region_law
        (first
          | (refine step_app (by rfl) _ _ (by rfl) B0 (some ⟨g, 0, none⟩) rc k (E.take k) (D * y - S * x) (by rfl) (HO.out.keep (by go_grown)) HKL.out.symm _ (by rfl) (by simp [W1.out, W2.out, W3.out]) ⟨by omega, by omega⟩ (by rw [HKL.out]; omega) (by simp; omega) ?_
             intro g8 cap8 w8 hown8 hgr8 hat8
             have O8 := Lib.hid hown8; have G8 := Lib.hid hgr8; have A8 := Lib.hid hat8
             clear hown8 hgr8 hat8))
      all_goals go_wp2
      all_goals
        go_roundw
        case rel =>
          have hk8 := (HK.out.next (show Keep wr _ by go_grown)).grown G8.out (by have := HK.out.size; simp; omega) (fun j h => by simp [Value.ownBlock] at h; have := HB0.out; omega)
          have hg8 : B0 ≤ g8 ∧ g8 < w8.heap.size := by
            rcases own_block O8.out.1 with ⟨h, _⟩ | ⟨q, h, h2, h3, _⟩
            · cases h
            · simp at h; omega
          exact ⟨k + 1, g8, cap8, by omega, by go_num, rfl, Lib.hid (by rw [HT.out]; exact O8.out), Lib.hid hk8, hg8.1, hg8.2⟩
        case measure => simp [intOf]; omega
    · have HE := Lib.hid (show k = d.length by omega)
      go_wp2
      go_ret
      have e := HE.out
      subst e
      exact ⟨g, rc, rfl, by have h := HO.out; rw [← HLE.out, List.take_length, HB0.out] at h; exact h, HK.out⟩
theorem cntL_sum8 {d l : List Int} (h : seqO d l = true) {k : Nat} (hk : k ≤ l.length) : (cntL d.length (l.take k)).sum = k := by
  obtain ⟨h1, h2, h3⟩ := seqO_parts h
  have := cnt_sum (l.take k) d.length (fun z hz => by
    obtain ⟨j, hj, rfl⟩ := List.getElem_of_mem hz
    have hj2 : j < l.length := by rw [List.length_take] at hj; omega
    have e : (l.take k)[j] = l[j] := by simp
    rw [e]
    have := rngB_at h2 hj2
    rw [getD_get l j hj2] at this; omega)
  rw [this, List.length_take]; omega
theorem cntL_mem8 {l : List Int} {n k : Nat} (hk : k ≤ l.length) (h2 : l.length ≤ 240) : ∀ z ∈ cntL n (l.take k), 0 ≤ z ∧ z ≤ 260 := by
  intro z hz
  obtain ⟨i, _, rfl⟩ := List.mem_map.1 hz
  have := cntI_bd l k i hk
  omega
set_option maxHeartbeats 1600000 in
theorem l08All_any (ad : Option Addr) (cap : Nat) (d : List Int) (bd : Option Addr) (bcap : Nat) (l : List Int) (w : World) (hz : Ints w ad d) (hl : Ints w bd l) (hq : seqO d l = true) :
    Calls Try.prog 63 #[.slice ad d.length cap, .slice bd l.length bcap] w fun e w' => ∃ rd rc rA rC, e = .returned (.slice rd (devs d l l.length).length rc) ∧ OwnR w' w.heap.size rd rc rA rC (devs d l l.length) ∧ Keep w w' := by
  have hok := (seqO_parts hq).1
  have hp := okD_parts hok
  have hL := (seqO_len hq).2
  have hD := okD_sum hok
  obtain ⟨i0, hi, hz0, hz1, hz2⟩ := info_parts Try.infoI
  have hb8 : i0.bytes * d.length ≤ 281474976710656 := by rw [hz2]; omega
  have hml : d.length ≤ maxLen := by unfold maxLen; omega
  have HBE := Lib.hid (fun (k : Nat) (hk : k ≤ l.length) (cd : Option Addr) (W : World) (kz : Keep w W) (hc : Ints W cd (cntL d.length (l.take k))) => l08Behind_any ad cap d cd d.length (cntL d.length (l.take k)) W (hz.keep kz (Nat.le_refl _)) hc hok (cntL_len _ _) (cntL_mem8 hk hL) (by rw [cntL_sum8 hq hk]; omega))
  have HBV := Lib.hid (fun (k : Nat) (hk : k ≤ l.length) => show devF d (fun i => (cntL d.length (l.take k)).getD i 0) (cntL d.length (l.take k)).sum = devF d (cntI (l.take k)) k from by
    rw [cntL_sum8 hq hk]; exact devF_same (fun i hi => cntL_get d.length (l.take k) i hi))
  have HR := Lib.hid (fun (k : Nat) (hk : k < l.length) => rngB_at (seqO_parts hq).2.1 hk)
  have HSET := Lib.hid (fun (k x : Nat) (h : k < l.length) hx hn => cntL_set d.length l k x h hx hn)
  have HCB := Lib.hid (fun (k i : Nat) (h : k ≤ l.length) => cntI_bd l k i h)
  have HSUC := Lib.hid (devs_succ d l)
  have HDL := Lib.hid (devs_len d l)
  have HDT := Lib.hid (devs_tot d l)
  have HCL := Lib.hid (cntL_len d.length)
  have HFL := Lib.hid (devF_len d)
  have hlen := hl.small
  go_enter Try.func63, Try.ntmps63
  go_wp2_with (at_make; refine wpList_make_full w rfl _ _ 24 rfl w.heap.size 2 i0 (.int .i64 0) 1 Try.underlying24 hi hz0 hz1 .i64 .i64 _ _ d.length rfl rfl rfl rfl hb8 hml (Nat.le_refl _) ?_)
  intro w0 hown0 hgrow0
  have hown0 : w0.ownsRow w.heap.size 2 1 (.slice (some ⟨w.heap.size, 0, none⟩) d.length d.length) d.length (List.replicate d.length (.int .i64 0)) := by simpa [Value.cells, toList_madeCells_one] using hown0
  have hk0 : Keep w w0 := (Below.refl _ _).grown hgrow0 (Nat.le_refl _) (fun k h => by cases h)
  clear hgrow0
  obtain ⟨B, hB⟩ : ∃ B, B = w.heap.size := ⟨_, rfl⟩
  rw [← hB] at hown0 ⊢
  have HB := Lib.hid hB; clear hB
  have hlt0 : B < w0.heap.size := by
    rcases own_block hown0 with ⟨h, _⟩ | ⟨g, h, _, h2, _⟩
    · cases h
    · simp at h; omega
  have HOB := Lib.hid hown0
  have HK0 := Lib.hid hk0
  clear hown0 hk0
  go_wp2
  obtain ⟨W1, hW1⟩ : ∃ W1, W1 = w0.alloc (.cells #[] 24) := ⟨_, rfl⟩
  have HR0 : Hid (OwnR W1 (B + 1) (some ⟨w0.heap.size, 0, none⟩) 0 (fun _ => none) (fun _ => 0) []) := Lib.hid ⟨by simp, by simp [tot], by
      rw [hW1]
      have := World.ownsRow_lit (base := B + 1) (e := 24) (size := 1) w0 #[] 0 (by omega) (by simp) rfl
      simpa [rowC] using this, fun j hj => by simp at hj, fun i j hi => by simp at hi, fun j hj => by simp at hj⟩
  have HK1 : Hid (Keep w0 W1) := Lib.hid (by rw [hW1]; go_grown)
  rw [← hW1]
  generalize hR0 : w0.heap.size = R0 at *
  clear hW1
  go_loopw [6, 7] (fun v i wr => ∃ (k : Nat) (rd : Option Addr) (rc : Nat) (rA : Nat → Option Addr) (rC : Nat → Nat), k ≤ l.length ∧ i = .int .i64 k ∧ v = .slice rd k rc ∧ Hid (wr.ownsRow B 2 1 (.slice (some ⟨B, 0, none⟩) d.length d.length) d.length (vals (cntL d.length (l.take k)))) ∧
      Hid (OwnR wr (B + 1) rd rc rA rC (devs d l k)) ∧ Hid (Below B w wr) ∧ B < wr.heap.size)
    (fun _ i _ => l.length - (intOf i).toNat)
  case atStart => exact ⟨0, _, _, _, _, Nat.zero_le _, rfl, rfl, Lib.hid (by rw [List.take_zero, cntL_nil]; exact ownsRow_keep HOB.out HK1.out), HR0, Lib.hid (by have h := HK0.out.next HK1.out; rw [HB.out]; exact h), by have := HK1.out.size; omega⟩
  case round =>
    obtain ⟨k, rd, rc, rA, rC, hk, rfl, rfl, HO, HRR, HK, hBl⟩ := hrel
    by_cases hlt : k < l.length
    · rcases (hl.keep HK.out (by rw [HB.out]; exact Nat.le_refl _)).at_ with h | ⟨b, off, rfl, hb1, hc⟩
      · subst h; simp at hlt
      have hcx := hc k hlt
      have hr := HR.out k hlt
      have hS := Lib.hid (HSET.out k)
      clear hc
      generalize l.getD k 0 = xi at hcx hr hS
      obtain ⟨x, rfl⟩ : ∃ x : Nat, xi = x := ⟨xi.toNat, by omega⟩
      have hxn : x < d.length := by omega
      have hxi : (x : Int) < (d.length : Int) := by omega
      have hcy : wr.cell? ⟨B, x, none⟩ = some (.int .i64 (cntI (l.take k) x)) := by rw [HO.out.cellAt x (by omega), cntL_at _ _ x hxn]
      have hfy := HO.out.frozenAt x
      have HST := Lib.hid (HO.out.stored x (.int .i64 (cntI (l.take k) x + 1)))
      have hcc := HCB.out k x (by omega)
      have hE := Lib.hid (hS.out x hlt rfl hxn)
      generalize cntI (l.take k) x = c at hcy hcc HST hE
      have V1 : IntKind.i64.wrap (c + 1) = c + 1 := IntWalk.i64_in _ (by omega)
      go_upto_region 7 with fail
      refine code_wp_gen8 (fun W2 hW2 => ?_)
      have HO2 : Hid (W2.ownsRow B 2 1 (.slice (some ⟨B, 0, none⟩) d.length d.length) d.length (vals (cntL d.length (l.take (k + 1))))) := Lib.hid (by
        have h := HST.out.1
        rw [hE.out] at h
        rw [hW2]; exact h)
      have HW2 : Hid (Wrote wr W2 (fun j => j = B)) := Lib.hid (by
        have h := HST.out.2
        rw [← hW2] at h
        exact Wrote.of_grown h (fun g hg => by simp at hg; omega))
      have hs2 : W2.heap.size = wr.heap.size := by rw [hW2]; simp
      clear hW2 hcy hfy HST hcx
      have HR2 : Hid (OwnR W2 (B + 1) rd rc rA rC (devs d l k)) := Lib.hid (HRR.out.wrote HW2.out (fun j hj e => by have := (HRR.out.lt j hj).1; omega))
      have HK2 : Hid (Below B w W2) := Lib.hid (below_wrote HK.out HW2.out (by omega) (fun j e => by omega))
      have HKw : Hid (Keep w W2) := Lib.hid (by have h := HK2.out; rw [HB.out] at h; exact h)
      have HI2 : Hid (∀ W, Keep W2 W → Ints W (some ⟨B, 0, none⟩) (cntL d.length (l.take (k + 1)))) := Lib.hid (fun W kk => by
        have o : Own W2 B (some ⟨B, 0, none⟩) d.length (cntL d.length (l.take (k + 1))) := ⟨by rw [HCL.out]; exact HO2.out, by rw [HCL.out]; omega, fun z hz => by
          have := cntL_mem8 (n := d.length) (l := l) (k := k + 1) (by omega) hL z hz
          exact ⟨by omega, by omega⟩⟩
        exact (o.keep kk).ints)
      have HCALL : Hid (∀ W, Keep W2 W → Calls Try.prog 95 #[.slice ad d.length cap, .slice (some ⟨B, 0, none⟩) d.length d.length] W fun e w' => ∃ g rc, e = .returned (.slice (some ⟨g, 0, none⟩) d.length rc) ∧ Own w' W.heap.size (some ⟨g, 0, none⟩) rc (devF d (cntI (l.take (k + 1))) ((k : Int) + 1)) ∧ Keep W w') := Lib.hid (fun W kk => by
        have h := HBE.out (k + 1) (by omega) (some ⟨B, 0, none⟩) W (Keep.next HKw.out kk) (HI2.out W kk)
        rw [HBV.out (k + 1) (by omega), HCL.out] at h
        exact h)
      go_wp2_with fail
      refine (HCALL.out _ (by go_grown)).mono ?_
      rintro e w3 ⟨g3, rc3, rfl, o3, k3⟩
      have H3 := Lib.hid o3
      have K3 : Hid (Keep W2 w3) := Lib.hid k3
      have hs3 := k3.size
      have hg3 : W2.heap.size ≤ g3 ∧ g3 < w3.heap.size := by
        rcases own_block o3.1 with ⟨h, _⟩ | ⟨q, h, h2, h3, _⟩
        · cases h
        · simp at h; omega
      clear o3 k3
      generalize hZ : devF d (cntI (l.take (k + 1))) ((k : Int) + 1) = Z at *
      have HZL : Hid (d.length = Z.length) := Lib.hid (by rw [← hZ, HFL.out])
      have HSU : Hid (devs d l (k + 1) = devs d l k ++ [Z]) := Lib.hid (by rw [HSUC.out, hZ])
      clear hZ
      have HKL : Hid (k = (devs d l k).length) := Lib.hid (HDL.out k).symm
      have HTB : Hid (tot (devs d l k) + Z.length ≤ 1099511627776) := Lib.hid (by
        rw [HDT.out, ← HZL.out]
        have : k * d.length ≤ 240 * 6 := Nat.mul_le_mul (by omega) hp.2.1
        omega)
      have hlk : (devs d l k).length < 1048576 := by rw [HDL.out]; omega
      have H3b : Hid (Own w3 (B + 1) (some ⟨g3, 0, none⟩) rc3 Z) := Lib.hid (H3.out.mono (by omega))
      have HR3 : Hid (OwnR w3 (B + 1) rd rc rA rC (devs d l k)) := Lib.hid (HR2.out.keep K3.out)
      have HFR : Hid (∀ b, (some ⟨g3, 0, none⟩ : Option Addr) = some ⟨b, 0, none⟩ → ¬ footR rd rA (devs d l k).length b) := Lib.hid (fun b e hf => by
        have h1 := (HR2.out.lt b hf).2
        cases e; omega)
      generalize hDk : devs d l k = Dk at *
      clear hDk
      go_wp2_with (refine list_appR (by rfl) _ _ (by rfl) (B + 1) rd rc k rA rC Dk (some ⟨g3, 0, none⟩) rc3 d.length Z (by rfl) (HR3.out.keep (by go_grown)) HKL.out w3.heap.size (by rfl) (by simp) HZL.out (H3b.out.keep (by go_grown)) HFR.out hlk HTB.out (by simp; omega) ?_; intro g8 cap8 w8 hown8 hgr8 hat8 hlt8; have O8 := Lib.hid hown8; have G8 := Lib.hid hgr8; clear hown8 hgr8 hat8)
      go_roundw
      case rel =>
        have hw8 : Wrote w3 w8 (fun j => B + 1 ≤ j) := Wrote.trans (Wrote.of_keep (by go_grown)) (Wrote.of_grown G8.out (fun q hq => by
          rcases own_block HR3.out.row with ⟨e, _⟩ | ⟨q2, e, h2, _⟩
          · rw [e] at hq; simp [Value.ownBlock] at hq
          · rw [e] at hq; simp [Value.ownBlock] at hq; omega))
        have hrow8 := row_same (ownsRow_keep HO2.out K3.out) (fun q e hq => hw8.block q hq (by simp at e; omega))
        exact ⟨k + 1, _, cap8, _, _, by omega, by go_num, rfl, Lib.hid hrow8, Lib.hid (by rw [HSU.out]; exact O8.out), Lib.hid (below_wrote (HK2.out.trans (K3.out.mono (by omega))) hw8 (by omega) (fun j h => by omega)), by have := hw8.size; omega⟩
      case measure => simp [intOf]; omega
    · have HE := Lib.hid (show k = l.length by omega)
      go_wp2
      go_ret
      have e := HE.out
      subst e
      refine ⟨rd, rc, rA, rC, (congrArg (fun n => Ending.returned (Value.slice rd n rc)) (HDL.out l.length)).symm, ?_, ?_⟩
      · have h := HRR.out.mono (lo' := B) (by omega); rw [HB.out] at h; exact h
      · have h := HK.out; rw [HB.out] at h; exact h
theorem specDeviationsOf_any (ad : Option Addr) (cap : Nat) (d : List Int) (bd : Option Addr) (bcap : Nat) (l : List Int) (w : World) (hz : Ints w ad d) (hl : Ints w bd l) :
    Calls Try.prog 30 #[.slice ad d.length cap, .slice bd l.length bcap] w fun e w' => ∃ rd rc rA rC, e = .returned (.tuple #[.slice rd (devV d l).length rc, .bool (seqO d l)]) ∧ OwnR w' w.heap.size rd rc rA rC (devV d l) ∧ Keep w w' := by
  cases hok : okD d
  · have hs : seqO d l = false := by unfold seqO; rw [hok]; rfl
    rw [show devV d l = [] from by unfold devV; rw [hs]; rfl, hs]
    go_enter Try.func30, Try.ntmps30
    go_wp2_with (go_at_call 61; refine (l08Is_any _ _ _ _ hz).mono ?_; rw [hok]; rintro e w1 ⟨rfl, k1⟩)
    go_ret2
    exact ⟨none, 0, _, _, rfl, OwnR.nil _ _, k1⟩
  have h6 := (okD_parts hok).2.1
  cases hq : seqO d l
  · have hb : seqB d l = false := by unfold seqO at hq; rw [hok] at hq; simpa using hq
    rw [show devV d l = [] from by unfold devV; rw [hq]; rfl]
    go_enter Try.func30, Try.ntmps30
    go_wp2_with (first | (go_at_call 61; refine (l08Is_any _ _ _ _ hz).mono ?_; rw [hok]; rintro e w1 ⟨rfl, k1⟩) | (go_at_call 62; refine (l08Sequence_any _ _ _ _ _ _ _ (hz.keep k1 (Nat.le_refl _)) (hl.keep k1 (Nat.le_refl _)) h6).mono ?_; rw [hb]; rintro e w2 ⟨rfl, k2⟩))
    go_ret2
    exact ⟨none, 0, _, _, rfl, OwnR.nil _ _, Keep.next k1 k2⟩
  · have hb : seqB d l = true := by unfold seqO at hq; rw [hok] at hq; simpa using hq
    have HA := Lib.hid (fun W (k : Keep w W) => l08All_any ad cap d bd bcap l W (hz.keep k (Nat.le_refl _)) (hl.keep k (Nat.le_refl _)) hq)
    rw [show devV d l = devs d l l.length from by unfold devV; rw [hq]; rfl]
    generalize devs d l l.length = E at *
    go_enter Try.func30, Try.ntmps30
    go_wp2_with (first | (go_at_call 61; refine (l08Is_any _ _ _ _ hz).mono ?_; rw [hok]; rintro e w1 ⟨rfl, k1⟩) | (go_at_call 62; refine (l08Sequence_any _ _ _ _ _ _ _ (hz.keep k1 (Nat.le_refl _)) (hl.keep k1 (Nat.le_refl _)) h6).mono ?_; rw [hb]; rintro e w2 ⟨rfl, k2⟩))
    refine (HA.out _ (Keep.next k1 k2)).mono ?_
    rintro e w3 ⟨rd, rc, rA, rC, rfl, o3, k3⟩
    have O3 := Lib.hid o3
    have K3 : Hid (Keep w w3) := Lib.hid (Keep.next (Keep.next k1 k2) k3)
    have hs3 : w.heap.size ≤ w2.heap.size := (Keep.next k1 k2).size
    clear o3 k3
    go_wp2
    go_ret2
    exact ⟨rd, rc, rA, rC, rfl, O3.out.mono hs3, K3.out⟩
end Go.Proofs.Ytmckbjhmkcbjgaa
