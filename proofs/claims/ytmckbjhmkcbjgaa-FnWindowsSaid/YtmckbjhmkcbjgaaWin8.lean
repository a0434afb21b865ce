/- Windows: pure; the model's look. -/
import Derived.Test.YtmckbjhmkcbjgaaDev8
import Derived.Test.YtmckbjhmkcbjgaaGreat
import Derived.Test.YtmckbjhmkcbjgaaCopyL
import Derived.Deep.LoopGhost
import Derived.Deep.RegionHeld3
namespace Go.Proofs.Ytmckbjhmkcbjgaa
open Go.ChangeShapes Go.WideShapes Go.ChangeAt Go.RowKit Go.Deep
set_option linter.unusedVariables false
/-- The earliest and the latest place of a copy. -/
def fstV (D x b : Int) (t : Nat) : Int := mx 1 (ce (D * ((t : Int) + 1) - b) x)
def lstV (D x b : Int) (t : Nat) : Int := mnW D (fl (b + D * (t : Int)) x + 1)
def fstL (D b x : Int) : List Int := (List.range x.toNat).map (fstV D x b)
def lstL (D b x : Int) : List Int := (List.range x.toNat).map (lstV D x b)
theorem fstL_len (D b : Int) (n : Nat) : (fstL D b n).length = n := by simp [fstL]
theorem lstL_len (D b : Int) (n : Nat) : (lstL D b n).length = n := by simp [lstL]
theorem fstL_get (D b : Int) (n t : Nat) (h : t < n) : (fstL D b n).getD t 0 = fstV D n b t := by simp [fstL, List.getD_eq_getElem?_getD, h]
theorem lstL_get (D b : Int) (n t : Nat) (h : t < n) : (lstL D b n).getD t 0 = lstV D n b t := by simp [lstL, List.getD_eq_getElem?_getD, h]
def winB (d : List Int) (b : Int) : Bool := okD d && inB b 0 (d.sum * d.sum - 1)
def fsts (d : List Int) (b : Int) (k : Nat) : List (List Int) := (d.take k).map (fstL d.sum b)
def lsts (d : List Int) (b : Int) (k : Nat) : List (List Int) := (d.take k).map (lstL d.sum b)
def fstsV (d : List Int) (b : Int) : List (List Int) := if winB d b then fsts d b d.length else []
def lstsV (d : List Int) (b : Int) : List (List Int) := if winB d b then lsts d b d.length else []
theorem fsts_succ (d : List Int) (b : Int) (k : Nat) (h : k < d.length) : fsts d b (k + 1) = fsts d b k ++ [fstL d.sum b (d.getD k 0)] := by
  unfold fsts; rw [List.take_succ_eq_append_getElem h, List.map_append, getD_get d k h]; rfl
theorem lsts_succ (d : List Int) (b : Int) (k : Nat) (h : k < d.length) : lsts d b (k + 1) = lsts d b k ++ [lstL d.sum b (d.getD k 0)] := by
  unfold lsts; rw [List.take_succ_eq_append_getElem h, List.map_append, getD_get d k h]; rfl
theorem fsts_len (d : List Int) (b : Int) (k : Nat) (h : k ≤ d.length) : (fsts d b k).length = k := by simp [fsts]; omega
theorem lsts_len (d : List Int) (b : Int) (k : Nat) (h : k ≤ d.length) : (lsts d b k).length = k := by simp [lsts]; omega
theorem tot_le {zss : List (List Int)} {M : Nat} (h : ∀ z ∈ zss, z.length ≤ M) : tot zss ≤ zss.length * M := by
  induction zss with
  | nil => simp [tot]
  | cons a t ih =>
    have h1 := ih (fun z hz => h z (List.mem_cons_of_mem _ hz))
    have h2 := h a (List.mem_cons_self ..)
    simp only [tot, List.length_cons, Nat.succ_mul]; omega
theorem fsts_tot {d : List Int} (b : Int) (k : Nat) (hok : okD d = true) (hk : k ≤ d.length) : tot (fsts d b k) ≤ 240 := by
  have h := tot_le (zss := fsts d b k) (M := 40) (fun z hz => by
    unfold fsts at hz
    obtain ⟨x, hx, rfl⟩ := List.mem_map.1 hz
    have := okD_mem hok x (List.mem_of_mem_take hx)
    simp [fstL]; omega)
  rw [fsts_len d b k hk] at h
  have := (okD_parts hok).2.1
  omega
theorem lsts_tot {d : List Int} (b : Int) (k : Nat) (hok : okD d = true) (hk : k ≤ d.length) : tot (lsts d b k) ≤ 240 := by
  have h := tot_le (zss := lsts d b k) (M := 40) (fun z hz => by
    unfold lsts at hz
    obtain ⟨x, hx, rfl⟩ := List.mem_map.1 hz
    have := okD_mem hok x (List.mem_of_mem_take hx)
    simp [lstL]; omega)
  rw [lsts_len d b k hk] at h
  have := (okD_parts hok).2.1
  omega
theorem win_bd {D b x : Int} {t : Nat} (hD : 0 ≤ D ∧ D ≤ 240) (hb : 0 ≤ b ∧ b ≤ 57600) (hx : 1 ≤ x ∧ x ≤ 40) (ht : (t : Int) + 1 ≤ x) :
    (0 ≤ D * ((t : Int) + 1) ∧ D * ((t : Int) + 1) ≤ 9600) ∧ (0 ≤ D * (t : Int) ∧ D * (t : Int) ≤ 9600) ∧ (-70000 ≤ ce (D * ((t : Int) + 1) - b) x ∧ ce (D * ((t : Int) + 1) - b) x ≤ 70000) ∧ (-70000 ≤ fl (b + D * (t : Int)) x ∧ fl (b + D * (t : Int)) x ≤ 70000) := by
  have e1 := mul_bd8s (D := D) (x := (t : Int) + 1) hD (by omega)
  have e2 := mul_bd8s (D := D) (x := (t : Int)) hD (by omega)
  exact ⟨e1, e2, ce_bd hx.1 (by omega) (by omega) (by omega), fl_bd hx.1 (by omega) (by omega) (by omega)⟩
theorem winB_parts {d : List Int} {b : Int} (h : winB d b = true) : okD d = true ∧ 0 ≤ b ∧ b ≤ 57600 := by
  unfold winB at h
  rw [Bool.and_eq_true] at h
  have h1 := inB_iff.1 h.2
  have h2 := okD_sum h.1
  have h3 : d.sum * d.sum ≤ 240 * 240 := Int.mul_le_mul h2.2 h2.2 (by omega) (by omega)
  exact ⟨h.1, h1.1, by omega⟩
/-- Footprints that stay apart behind an append to the first of two. -/
theorem gap_push {w : World} {ed p : Option Addr} {eA : Nat → Option Addr} {n g : Nat} {FL : Nat → Prop} (gap : ∀ b, footR ed eA n b → FL b → False) (hp : ∀ b, p = some ⟨b, 0, none⟩ → FL b → False) (hg : ed = some ⟨g, 0, none⟩ ∨ w.heap.size ≤ g) (hlt : ∀ b, FL b → b < w.heap.size) :
    ∀ b, footR (some ⟨g, 0, none⟩) (adN eA n p) (n + 1) b → FL b → False := by
  intro b h hf
  rcases footR_push h with h | h | h
  · subst h
    rcases hg with hg | hg
    · exact gap b (.inl hg) hf
    · have := hlt b hf; omega
  · exact hp b h hf
  · exact gap b h hf
theorem l08Bound_any (ad : Option Addr) (cap : Nat) (d : List Int) (b : Int) (w : World) (hz : Ints w ad d) :
    Calls Try.prog 70 #[.slice ad d.length cap, .int .i64 b] w fun e w' => e = .returned (.bool (winB d b)) ∧ Keep w w' := by
  cases hok : okD d
  · rw [show winB d b = false from by unfold winB; rw [hok]; rfl]
    go_enter Try.func70, Try.ntmps70
    go_wp2_with (go_at_call 61; refine (l08Is_any _ _ _ _ hz).mono ?_; rw [hok]; rintro e w1 ⟨rfl, k1⟩)
    go_ret
    exact ⟨rfl, k1⟩
  · rw [show winB d b = inB b 0 (d.sum * d.sum - 1) from by unfold winB; rw [hok]; rfl]
    have h6 := (okD_parts hok).2.1
    have hD := okD_sum hok
    have e1 := mul_bd8 (D := d.sum) (x := d.sum) (by omega) (by omega)
    have HS := Lib.hid (fun W (k : Keep w W) => l01Sum_any ad cap d W (hz.keep k (Nat.le_refl _)) (okD_sumb hok) (by omega))
    generalize d.sum = D at *
    have V1 : IntKind.i64.wrap (D * D) = D * D := IntWalk.i64_in _ (by omega)
    have V2 : IntKind.i64.wrap (D * D - 1) = D * D - 1 := IntWalk.i64_in _ (by omega)
    go_enter Try.func70, Try.ntmps70
    go_wp2_with (first | (go_at_call 61; refine (l08Is_any _ _ _ _ hz).mono ?_; rw [hok]; rintro e w1 ⟨rfl, k1⟩) | (go_at_call 53; refine (HS.out _ k1).mono ?_; rintro e w' ⟨rfl, rfl⟩) | (go_at_call 92; refine (l00In_any _ _ _ _).mono ?_; rintro e w' ⟨rfl, rfl⟩))
    go_ret
    exact ⟨rfl, k1⟩
set_option maxHeartbeats 3200000 in
set_option maxRecDepth 100000 in
theorem l08Windows_any (ad : Option Addr) (cap : Nat) (d : List Int) (b : Int) (w : World) (hz : Ints w ad d) (hw : winB d b = true) :
    Calls Try.prog 71 #[.slice ad d.length cap, .int .i64 b] w fun e w' => ∃ rd rc rA rC qd qc qA qC, e = .returned (.tuple #[.slice rd (fsts d b d.length).length rc, .slice qd (lsts d b d.length).length qc]) ∧
      OwnR w' w.heap.size rd rc rA rC (fsts d b d.length) ∧ OwnR w' w.heap.size qd qc qA qC (lsts d b d.length) ∧ (∀ k, footR rd rA (fsts d b d.length).length k → footR qd qA (lsts d b d.length).length k → False) ∧ Keep w w' := by
  obtain ⟨hok, hb⟩ := winB_parts hw
  have hp := okD_parts hok
  have hD := okD_sum hok
  have h6 := hp.2.1
  have hdl := hz.small
  have HDM := Lib.hid hp.2.2.1
  have HS := Lib.hid (fun W (k : Keep w W) => l01Sum_any ad cap d W (hz.keep k (Nat.le_refl _)) (okD_sumb hok) (by omega))
  have HFS := Lib.hid (fun k h => fsts_succ d b k h)
  have HLS := Lib.hid (fun k h => lsts_succ d b k h)
  have HFL := Lib.hid (fun k h => fsts_len d b k h)
  have HLL := Lib.hid (fun k h => lsts_len d b k h)
  have HFT := Lib.hid (fun k h => fsts_tot b k hok h)
  have HLT := Lib.hid (fun k h => lsts_tot b k hok h)
  have HF0 : Hid (fsts d b 0 = []) := Lib.hid (by simp [fsts])
  have HL0 : Hid (lsts d b 0 = []) := Lib.hid (by simp [lsts])
  clear hw hok hp
  generalize hDs : d.sum = D at *
  clear hDs
  generalize fsts d b = FS at *
  generalize lsts d b = LS at *
  obtain ⟨W0, hW0⟩ : ∃ W0, W0 = (w.alloc (.cells #[] 24)).alloc (.cells #[] 24) := ⟨_, rfl⟩
  have HE0 : Hid (OwnR W0 w.heap.size (some ⟨w.heap.size, 0, none⟩) 0 (fun _ => none) (fun _ => 0) []) := Lib.hid ⟨by simp, by simp [tot], by
      have := World.ownsRow_lit (base := w.heap.size) (e := 24) (size := 1) w #[] 0 (by simp) (by simp) rfl
      rw [hW0]; exact ownsRow_keep (by simpa [rowC] using this) (by go_grown), fun j hj => by simp at hj, fun i j hi => by simp at hi, fun j hj => by simp at hj⟩
  have HL0r : Hid (OwnR W0 w.heap.size (some ⟨w.heap.size + 1, 0, none⟩) 0 (fun _ => none) (fun _ => 0) []) := Lib.hid ⟨by simp, by simp [tot], by
      have := World.ownsRow_lit (base := w.heap.size) (e := 24) (size := 1) (w.alloc (.cells #[] 24)) #[] 0 (by simp) (by simp) rfl
      rw [hW0]; simpa [rowC] using this, fun j hj => by simp at hj, fun i j hi => by simp at hi, fun j hj => by simp at hj⟩
  have HK0 : Hid (Keep w W0) := Lib.hid (by rw [hW0]; go_grown)
  have hs0 : W0.heap.size = w.heap.size + 2 := by rw [hW0]; simp
  go_enter Try.func71, Try.ntmps71
  go_wp2_with (go_at_call 53; refine (HS.out _ (by go_grown)).mono ?_; rintro e w' ⟨rfl, rfl⟩)
  rw [← hW0]
  clear hW0
  go_loopg [7, 8, 9, 10, 11, 12] d.length (fun kk v1 v2 i _ _ _ wr => ∃ (k : Nat) (ed : Option Addr) (ec : Nat) (eA : Nat → Option Addr) (eC : Nat → Nat) (ld : Option Addr) (lc : Nat) (lA : Nat → Option Addr) (lC : Nat → Nat), k ≤ d.length ∧ kk = d.length - k ∧ i = .int .i64 k ∧ v1 = .slice ed k ec ∧ v2 = .slice ld k lc ∧
      Hid (OwnR wr w.heap.size ed ec eA eC (FS k)) ∧ Hid (OwnR wr w.heap.size ld lc lA lC (LS k)) ∧ Hid (∀ b, footR ed eA k b → footR ld lA k b → False) ∧ Hid (Keep w wr))
  case atStart => exact ⟨0, _, _, _, _, _, _, _, _, Nat.zero_le _, rfl, rfl, rfl, rfl, Lib.hid (by rw [HF0.out]; exact HE0.out), Lib.hid (by rw [HL0.out]; exact HL0r.out), Lib.hid (fun b h1 h2 => by
      rcases h1 with h1 | ⟨j, hj, _⟩
      · rcases h2 with h2 | ⟨j, hj, _⟩
        · cases h1; simp at h2
        · omega
      · omega), HK0⟩
  case round =>
    obtain ⟨k, ed, ec, eA, eC, ld, lc, lA, lC, hk, rfl, rfl, rfl, rfl, HE, HL, HG, HK⟩ := hrel
    obtain ⟨wo, hwo⟩ : ∃ wo, wo = wr := ⟨_, rfl⟩
    rw [← hwo] at HE HL HK ⊢
    clear hwo
    by_cases hlt : k < d.length
    · rcases (hz.keep HK.out (Nat.le_refl _)).at_ with h | ⟨bb, off, rfl, hb1, hc⟩
      · subst h; simp at hlt
      have hcx := hc k hlt
      have hdk := HDM.out k hlt
      have HF1 := Lib.hid (HFS.out k hlt)
      have HL1 := Lib.hid (HLS.out k hlt)
      clear hc
      generalize d.getD k 0 = xi at hcx hdk HF1 HL1
      obtain ⟨n, rfl⟩ : ∃ n : Nat, xi = n := ⟨xi.toNat, by omega⟩
      obtain ⟨W1, hW1⟩ : ∃ W1, W1 = (wo.alloc (.cells #[] 2)).alloc (.cells #[] 2) := ⟨_, rfl⟩
      have HO1 : Hid (Own W1 wo.heap.size (some ⟨wo.heap.size, 0, none⟩) 0 []) := Lib.hid (by rw [hW1]; exact (Own.lit0 wo).keep (by go_grown))
      have HO2 : Hid (Own W1 wo.heap.size (some ⟨wo.heap.size + 1, 0, none⟩) 0 []) := Lib.hid (by
        rw [hW1]
        have h := (Own.lit0 (wo.alloc (.cells #[] 2))).mono (B' := wo.heap.size) (by simp)
        simpa using h)
      have HK1 : Hid (Keep wo W1) := Lib.hid (by rw [hW1]; go_grown)
      have HC1 : Hid (∀ W, Keep wo W → W.cell? ⟨bb, off + k, none⟩ = some (.int .i64 (n : Int))) := Lib.hid (fun W kk => by rw [kk.cell (by exact hb1)]; exact hcx)
      have HFlen := Lib.hid (fstL_len D b n)
      have HLlen := Lib.hid (lstL_len D b n)
      have HFget := Lib.hid (fun t h => fstL_get D b n t h)
      have HLget := Lib.hid (fun t h => lstL_get D b n t h)
      have HWB := Lib.hid (fun (t : Nat) (h : t < n) => win_bd (t := t) (D := D) (b := b) (x := n) (by omega) hb hdk (by omega))
      generalize hM : wo.heap.size = M at *
      generalize hFn : fstL D b n = F at *
      generalize hLn : lstL D b n = L at *
      clear hFn hLn
      go_wp2
      rw [← hW1]
      clear hW1 hcx
      go_loopg [10, 11, 12] n (fun kk v1 v2 jj wr => ∃ (t : Nat) (fd : Option Addr) (fc : Nat) (gd : Option Addr) (gc : Nat), t ≤ n ∧ kk = n - t ∧ jj = .int .i64 ((t : Int) + 1) ∧ v1 = .slice fd t fc ∧ v2 = .slice gd t gc ∧
          Hid (Own wr M fd fc (F.take t)) ∧ Hid (Own wr M gd gc (L.take t)) ∧ Hid (∀ j, fd = some ⟨j, 0, none⟩ → gd = some ⟨j, 0, none⟩ → False) ∧ Hid (Keep wo wr))
      case atStart => exact ⟨0, _, _, _, _, Nat.zero_le _, rfl, rfl, rfl, rfl, Lib.hid (by simpa using HO1.out), Lib.hid (by simpa using HO2.out), Lib.hid (fun j a b => by cases a; simp at b), HK1⟩
      case round =>
        obtain ⟨t, fd, fc, gd, gc, ht, rfl, rfl, rfl, rfl, HA, HB, HAP, HKI⟩ := hrel
        have hcx := HC1.out _ HKI.out
        by_cases htn : t < n
        · have hti : (t : Int) + 1 ≤ (n : Int) := by omega
          obtain ⟨⟨m1, m2⟩, ⟨m3, m4⟩, ⟨m5, m6⟩, m7, m8⟩ := HWB.out t htn
          have HT1 := Lib.hid (take_succ_getD F t (by rw [HFlen.out]; exact htn))
          have HT2 := Lib.hid (take_succ_getD L t (by rw [HLlen.out]; exact htn))
          have HTL1 : Hid ((F.take t).length = t) := Lib.hid (by rw [List.length_take, HFlen.out]; omega)
          have HTL2 : Hid ((L.take t).length = t) := Lib.hid (by rw [List.length_take, HLlen.out]; omega)
          have HV1 : Hid (F.getD t 0 = mx 1 (ce (D * ((t : Int) + 1) - b) n)) := Lib.hid (by rw [HFget.out t htn]; rfl)
          have HV2 : Hid (L.getD t 0 = mnW D (fl (b + D * (t : Int)) n + 1)) := Lib.hid (by rw [HLget.out t htn]; rfl)
          rw [HV1.out] at HT1
          rw [HV2.out] at HT2
          have HCE := Lib.hid (fun W => l01Ceil_any (D * ((t : Int) + 1) - b) n W (by omega) (by omega) hdk.1 (by omega))
          have HFLo := Lib.hid (fun W => l01Floor_any (b + D * (t : Int)) n W (by omega) (by omega) hdk.1 (by omega))
          generalize ce (D * ((t : Int) + 1) - b) n = cv at *
          generalize fl (b + D * (t : Int)) n = fv at *
          have V1 : IntKind.i64.wrap (D * ((t : Int) + 1)) = D * ((t : Int) + 1) := IntWalk.i64_in _ (by omega)
          have V2 : IntKind.i64.wrap (D * ((t : Int) + 1) - b) = D * ((t : Int) + 1) - b := IntWalk.i64_in _ (by omega)
          have V3 : IntKind.i64.wrap (t : Int) = (t : Int) := IntWalk.i64_in _ (by omega)
          have V4 : IntKind.i64.wrap (D * (t : Int)) = D * (t : Int) := IntWalk.i64_in _ (by omega)
          have V5 : IntKind.i64.wrap (b + D * (t : Int)) = b + D * (t : Int) := IntWalk.i64_in _ (by omega)
          have V6 : IntKind.i64.wrap (fv + 1) = fv + 1 := IntWalk.i64_in _ (by omega)
          have hm1 : -70000 ≤ mx 1 cv ∧ mx 1 cv ≤ 70000 := by unfold mx; split <;> omega
          have hm2 : -70001 ≤ mnW D (fv + 1) ∧ mnW D (fv + 1) ≤ 70001 := by unfold mnW; split <;> omega
          have HMX := Lib.hid (fun W => l00Max_any 1 cv W)
          have HMN := Lib.hid (fun W => l00MinW_any D (fv + 1) W)
          generalize mx 1 cv = c1 at *
          generalize mnW D (fv + 1) = c2 at *
          have hMr : M ≤ wr.heap.size := by have := HKI.out.size; omega
          go_wp2_with (first | (go_at_call 102; refine (HCE.out _).mono ?_; rintro e w' ⟨rfl, rfl⟩) | (go_at_call 64; refine (HMX.out _).mono ?_; rintro e w' ⟨rfl, rfl⟩) | (refine list_app2 (by rfl) _ _ (by rfl) M fd fc t _ c1 (by rfl) (HA.out.keep (by go_grown)) HTL1.out.symm wr.heap.size (by rfl) (by simp) ⟨by omega, by omega⟩ (by rw [HTL1.out]; omega) (by simp; omega) ?_))
          intro g1 cap1 w1 hown1 hgr1 hat1 hlt1
          have HB1 : Hid (Below M wr w1) := Lib.hid (below_own (by go_grown) (HA.out.keep (by go_grown)) hgr1 (by simp; omega) (Nat.le_refl _))
          have HBk : Hid (Own w1 M gd gc (L.take t)) := Lib.hid (Own.apart (HB.out.keep (by go_grown)) (HA.out.keep (by go_grown)) hgr1 (fun j a b => HAP.out j b a))
          have hcx1 := HC1.out w1 (HKI.out.trans (HB1.out.mono (by omega)))
          have hs1 := HB1.out.size
          have HO1' := Lib.hid hown1
          have HAT1 := Lib.hid hat1
          clear hcx hgr1 hown1 hat1
          go_wp2_with (first | (go_at_call 103; refine (HFLo.out _).mono ?_; rintro e w' ⟨rfl, rfl⟩) | (go_at_call 93; refine (HMN.out _).mono ?_; rintro e w' ⟨rfl, rfl⟩) | (refine list_app2 (by rfl) _ _ (by rfl) M gd gc t _ c2 (by rfl) (HBk.out.keep (by go_grown)) HTL2.out.symm w1.heap.size (by rfl) (by simp) ⟨by omega, by omega⟩ (by rw [HTL2.out]; omega) (by simp; omega) ?_))
          intro g2 cap2 w2 hown2 hgr2 hat2 hlt2
          have HB2 : Hid (Below M w1 w2) := Lib.hid (below_own (by go_grown) (HBk.out.keep (by go_grown)) hgr2 (by simp; omega) (Nat.le_refl _))
          have hsep : ∀ j, some (⟨g1, 0, none⟩ : Addr) = some ⟨j, 0, none⟩ → gd = some ⟨j, 0, none⟩ → False := by
            intro j a b
            rcases own_block HB.out.1 with ⟨h, _⟩ | ⟨j2, h, _, h2, _⟩
            · rw [h] at b; cases b
            · rw [h] at b; cases a; cases b
              rcases HAT1.out with h3 | h3
              · exact HAP.out _ h3 h
              · first | omega | (simp at h3; omega)
          have ho1 : Own w2 M (some ⟨g1, 0, none⟩) cap1 (F.take t ++ [c1]) := Own.apart (HO1'.out.keep (by go_grown)) (HBk.out.keep (by go_grown)) hgr2 hsep
          have hap2 : ∀ j, some (⟨g1, 0, none⟩ : Addr) = some ⟨j, 0, none⟩ → some (⟨g2, 0, none⟩ : Addr) = some ⟨j, 0, none⟩ → False := by
            intro j a b
            rcases hat2 with h3 | h3
            · exact hsep j a (by rw [h3]; exact b)
            · cases a; cases b; first | omega | (simp at h3; omega)
          have HOA := Lib.hid ho1
          have HOB := Lib.hid hown2
          have HAPN := Lib.hid hap2
          clear ho1 hown2 hap2 hgr2 hat2 hsep
          go_wp2
          go_roundg (n - (t + 1))
          case measure => omega
          case rel => exact ⟨t + 1, _, cap1, _, cap2, by omega, by omega, by go_num, rfl, rfl, Lib.hid (by rw [HT1.out]; exact HOA.out), Lib.hid (by rw [HT2.out]; exact HOB.out), HAPN, Lib.hid (HKI.out.trans ((HB1.out.trans HB2.out).mono (by omega)))⟩
        · have hte := Lib.hid (show t = n by omega)
          have HFA : Hid (Own wr M fd fc F) := Lib.hid (by have h := HA.out; rw [hte.out, ← HFlen.out, List.take_length] at h; exact h)
          have HFB : Hid (Own wr M gd gc L) := Lib.hid (by have h := HB.out; rw [hte.out, ← HLlen.out, List.take_length] at h; exact h)
          have hMr : M ≤ wr.heap.size := by have := HKI.out.size; omega
          have hwM : w.heap.size ≤ M := by have := HK.out.size; omega
          have HEr : Hid (OwnR wr w.heap.size ed ec eA eC (FS k)) := Lib.hid (HE.out.keep HKI.out)
          have HLr : Hid (OwnR wr w.heap.size ld lc lA lC (LS k)) := Lib.hid (HL.out.keep HKI.out)
          have HKL1 : Hid (k = (FS k).length) := Lib.hid (HFL.out k hk).symm
          have HKL2 : Hid (k = (LS k).length) := Lib.hid (HLL.out k hk).symm
          have HLE : Hid (∀ b, footR ed eA k b → b < M) := Lib.hid (fun b h => by have h2 := (HE.out.lt b (by rw [← HKL1.out]; exact h)).2; omega)
          have HLLt : Hid (∀ b, footR ld lA k b → b < M) := Lib.hid (fun b h => by have h2 := (HL.out.lt b (by rw [← HKL2.out]; exact h)).2; omega)
          have HFM : Hid (∀ b, fd = some ⟨b, 0, none⟩ → M ≤ b ∧ b < wr.heap.size) := Lib.hid (fun b e => by
            rcases own_block HFA.out.1 with ⟨h, _⟩ | ⟨q, h, h2, h3, _⟩
            · rw [h] at e; cases e
            · rw [h] at e; cases e; omega)
          have HGM : Hid (∀ b, gd = some ⟨b, 0, none⟩ → M ≤ b ∧ b < wr.heap.size) := Lib.hid (fun b e => by
            rcases own_block HFB.out.1 with ⟨h, _⟩ | ⟨q, h, h2, h3, _⟩
            · rw [h] at e; cases e
            · rw [h] at e; cases e; omega)
          have hkf : (FS k).length < 1048576 := by rw [HFL.out k hk]; omega
          have hkl : (LS k).length < 1048576 := by rw [HLL.out k hk]; omega
          have htf : tot (FS k) + F.length ≤ 1099511627776 := by have := HFT.out k hk; have := HFlen.out; omega
          have htl : tot (LS k) + L.length ≤ 1099511627776 := by have := HLT.out k hk; have := HLlen.out; omega
          have HTN1 : Hid (t = F.length) := Lib.hid (by rw [hte.out, HFlen.out])
          have HTN2 : Hid (t = L.length) := Lib.hid (by rw [hte.out, HLlen.out])
          generalize hFk : FS k = Fk at *
          generalize hLk : LS k = Lk at *
          clear hFk hLk
          go_wp2_with (refine list_appR (by rfl) _ _ (by rfl) w.heap.size ed ec k eA eC Fk fd fc t F (by rfl) (HEr.out.keep (by go_grown)) HKL1.out wr.heap.size (by rfl) (by simp) HTN1.out ((HFA.out.mono hwM).keep (by go_grown)) (fun b e h => by have h1 := (HFM.out b e).1; have h2 := HLE.out b (by rw [← HKL1.out] at h; exact h); omega) hkf htf (by simp; omega) ?_)
          intro g8 cap8 w8 hown8 hgr8 hat8 hlt8
          have HW8 : Hid (Wrote wr w8 (fun b => ed = some ⟨b, 0, none⟩)) := Lib.hid (Wrote.trans (Wrote.of_keep (by go_grown)) (Wrote.of_grown hgr8 (fun q hq => by
            rcases own_block HEr.out.row with ⟨e, _⟩ | ⟨q2, e, _⟩
            · rw [e] at hq; simp [Value.ownBlock] at hq
            · rw [e] at hq; simp [Value.ownBlock] at hq; rw [e, hq])))
          have hs8 := HW8.out.size
          have HE8 : Hid (OwnR w8 w.heap.size (some ⟨g8, 0, none⟩) cap8 (adN eA k fd) (cpN eC k fc) (Fk ++ [F])) := Lib.hid (by rw [← HKL1.out] at hown8; exact hown8)
          have HL8 : Hid (OwnR w8 w.heap.size ld lc lA lC Lk) := Lib.hid (HLr.out.wrote HW8.out (fun b h e => HG.out b (.inl e) (by rw [← HKL2.out] at h; exact h)))
          have HFB8 : Hid (Own w8 M gd gc L) := Lib.hid (HFB.out.wrote HW8.out (fun b e e2 => by have h1 := (HGM.out b e).1; have h2 := HLE.out b (.inl e2); omega))
          have hat8' : ed = some ⟨g8, 0, none⟩ ∨ wr.heap.size ≤ g8 := hat8.imp id (fun h => by first | omega | (simp at h; omega))
          have HG8 : Hid (∀ b, footR (some ⟨g8, 0, none⟩) (adN eA k fd) (k + 1) b → footR ld lA k b → False) := Lib.hid (gap_push (w := wr) HG.out (fun b e h => by have h1 := (HFM.out b e).1; have h2 := HLLt.out b h; omega) hat8' (fun b h => by have := HLLt.out b h; omega))
          have HGG : Hid (∀ b, gd = some ⟨b, 0, none⟩ → footR (some ⟨g8, 0, none⟩) (adN eA k fd) (k + 1) b → False) := Lib.hid (fun b e h => by
            have h1 := HGM.out b e
            rcases footR_push h with h | h | h
            · subst h
              rcases hat8' with h3 | h3
              · have := HLE.out b (.inl h3); omega
              · omega
            · exact HAP.out b h e
            · have := HLE.out b h; omega)
          have HLT8 : Hid (∀ b, footR (some ⟨g8, 0, none⟩) (adN eA k fd) (k + 1) b → b < w8.heap.size) := Lib.hid (fun b h => (HE8.out.lt b (by rw [List.length_append, ← HKL1.out]; exact h)).2)
          have HK8 : Hid (Keep w w8) := Lib.hid (below_wrote (HK.out.trans (HKI.out.mono (by omega))) HW8.out (by omega) (fun b e => by
            rcases own_block HEr.out.row with ⟨h, _⟩ | ⟨q, h, h2, _⟩
            · rw [h] at e; cases e
            · rw [h] at e; cases e; exact h2))
          clear hown8 hgr8 hat8 hat8'
          go_wp2_with (refine list_appR (by rfl) _ _ (by rfl) w.heap.size ld lc k lA lC Lk gd gc t L (by rfl) (HL8.out.keep (by go_grown)) HKL2.out w8.heap.size (by rfl) (by simp) HTN2.out ((HFB8.out.mono hwM).keep (by go_grown)) (fun b e h => by have h1 := (HGM.out b e).1; have h2 := HLLt.out b (by rw [← HKL2.out] at h; exact h); omega) hkl htl (by simp; omega) ?_)
          intro g9 cap9 w9 hown9 hgr9 hat9 hlt9
          have HW9 : Hid (Wrote w8 w9 (fun b => ld = some ⟨b, 0, none⟩)) := Lib.hid (Wrote.trans (Wrote.of_keep (by go_grown)) (Wrote.of_grown hgr9 (fun q hq => by
            rcases own_block HLr.out.row with ⟨e, _⟩ | ⟨q2, e, _⟩
            · rw [e] at hq; simp [Value.ownBlock] at hq
            · rw [e] at hq; simp [Value.ownBlock] at hq; rw [e, hq])))
          have HL9 : Hid (OwnR w9 w.heap.size (some ⟨g9, 0, none⟩) cap9 (adN lA k gd) (cpN lC k gc) (Lk ++ [L])) := Lib.hid (by rw [← HKL2.out] at hown9; exact hown9)
          have HE9 : Hid (OwnR w9 w.heap.size (some ⟨g8, 0, none⟩) cap8 (adN eA k fd) (cpN eC k fc) (Fk ++ [F])) := Lib.hid (HE8.out.wrote HW9.out (fun b h e => HG8.out b (by rw [List.length_append, ← HKL1.out] at h; exact h) (.inl e)))
          have hat9' : ld = some ⟨g9, 0, none⟩ ∨ w8.heap.size ≤ g9 := hat9.imp id (fun h => by first | omega | (simp at h; omega))
          have HG9 : Hid (∀ b, footR (some ⟨g9, 0, none⟩) (adN lA k gd) (k + 1) b → footR (some ⟨g8, 0, none⟩) (adN eA k fd) (k + 1) b → False) := Lib.hid (gap_push (w := w8) (fun b h1 h2 => HG8.out b h2 h1) HGG.out hat9' HLT8.out)
          have HK9 : Hid (Keep w w9) := Lib.hid (below_wrote HK8.out HW9.out (by omega) (fun b e => by
            rcases own_block HLr.out.row with ⟨h, _⟩ | ⟨q, h, h2, _⟩
            · rw [h] at e; cases e
            · rw [h] at e; cases e; exact h2))
          clear hown9 hgr9 hat9 hat9'
          go_wp2
          go_roundg (d.length - (k + 1))
          case measure => omega
          case rel => exact ⟨k + 1, _, cap8, _, _, _, cap9, _, _, by omega, by omega, by go_num, rfl, rfl, Lib.hid (by rw [HF1.out]; exact HE9.out), Lib.hid (by rw [HL1.out]; exact HL9.out), Lib.hid (fun b h1 h2 => HG9.out b h2 h1), HK9⟩
    · have hke := Lib.hid (show k = d.length by omega)
      go_wp2
      have e := hke.out
      subst e
      refine bodyPost_ret (v := .tuple #[.slice ed d.length ec, .slice ld d.length lc]) (by simp [results, Try.results71, go_sem]) rfl ?_
      have l1 := HFL.out d.length (Nat.le_refl _)
      have l2 := HLL.out d.length (Nat.le_refl _)
      exact ⟨ed, ec, eA, eC, ld, lc, lA, lC, by rw [l1, l2], HE.out, HL.out, fun b h1 h2 => HG.out b (by rw [l1] at h1; exact h1) (by rw [l2] at h2; exact h2), HK.out⟩
end Go.Proofs.Ytmckbjhmkcbjgaa
