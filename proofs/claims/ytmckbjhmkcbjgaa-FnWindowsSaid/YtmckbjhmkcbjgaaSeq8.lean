/- Sequences for demands: how often each product stands; the model's look and the program's. -/
import Derived.Test.YtmckbjhmkcbjgaaArr8
import Derived.Test.YtmckbjhmkcbjgaaSame
namespace Go.Proofs.Ytmckbjhmkcbjgaa
open Go.ChangeShapes Go.WideShapes Go.ChangeAt Go.RowKit Go.Deep
set_option linter.unusedVariables false
/-- How often a product stands in a list. -/
def cntI (l : List Int) (i : Nat) : Int := (l.countP (fun z => decide (z = (i : Int))) : Nat)
theorem cntI_nil (i : Nat) : cntI [] i = 0 := rfl
theorem cntI_succ (l : List Int) (k i : Nat) (h : k < l.length) : cntI (l.take (k + 1)) i = cntI (l.take k) i + (if l.getD k 0 = (i : Int) then 1 else 0) := by
  unfold cntI
  rw [List.take_succ_eq_append_getElem h, List.countP_append, getD_get l k h, List.countP_singleton]
  by_cases c : l[k] = (i : Int)
  · rw [if_pos c, if_pos (by simpa using c)]; rfl
  · rw [if_neg c, if_neg (by simpa using c)]; rfl
theorem cntI_bd (l : List Int) (k i : Nat) (h : k ≤ l.length) : 0 ≤ cntI (l.take k) i ∧ cntI (l.take k) i ≤ k := by
  have h2 : (l.take k).countP (fun z => decide (z = (i : Int))) ≤ k := Nat.le_trans List.countP_le_length (by rw [List.length_take]; omega)
  unfold cntI
  omega
/-- The first k numbers are products. -/
def rngB (l : List Int) (n k : Nat) : Bool := (List.range k).all fun j => inB (l.getD j 0) 0 ((n : Int) - 1)
theorem rngB_succ (l : List Int) (n k : Nat) : rngB l n (k + 1) = (rngB l n k && inB (l.getD k 0) 0 ((n : Int) - 1)) := by
  unfold rngB; rw [List.range_succ, List.all_append]; simp
theorem rngB_no {l : List Int} {n m k : Nat} (h : k < m) (hf : inB (l.getD k 0) 0 ((n : Int) - 1) = false) : rngB l n m = false := by
  unfold rngB; rw [List.all_eq_false]; exact ⟨k, List.mem_range.2 h, by rw [hf]; exact Bool.false_ne_true⟩
theorem rngB_at {l : List Int} {n m k : Nat} (h : rngB l n m = true) (hk : k < m) : 0 ≤ l.getD k 0 ∧ l.getD k 0 ≤ (n : Int) - 1 := by
  unfold rngB at h; rw [List.all_eq_true] at h; exact inB_iff.1 (h k (List.mem_range.2 hk))
theorem cntI_none {l : List Int} {n : Nat} (h : rngB l n l.length = true) (i : Nat) (hi : n ≤ i) : cntI l i = 0 := by
  unfold cntI
  have : l.countP (fun z => decide (z = (i : Int))) = 0 := by
    rw [List.countP_eq_zero]
    intro z hz
    obtain ⟨k, hk, rfl⟩ := List.getElem_of_mem hz
    have := rngB_at h hk
    rw [getD_get l k hk] at this
    simp; omega
  omega
def cntL (n : Nat) (l : List Int) : List Int := (List.range n).map (cntI l)
theorem cntL_len (n : Nat) (l : List Int) : (cntL n l).length = n := by simp [cntL]
theorem cntL_get (n : Nat) (l : List Int) (i : Nat) (h : i < n) : (cntL n l).getD i 0 = cntI l i := by simp [cntL, List.getD_eq_getElem?_getD, h]
theorem cntL_nil (n : Nat) : vals (cntL n []) = List.replicate n (.int .i64 0) := by
  rw [List.eq_replicate_iff]
  refine ⟨by simp [cntL], fun v hv => ?_⟩
  obtain ⟨z, hz, rfl⟩ := List.mem_map.1 hv
  unfold cntL at hz
  obtain ⟨i, _, rfl⟩ := List.mem_map.1 hz
  rfl
theorem cntL_at (n : Nat) (l : List Int) (i : Nat) (h : i < n) : (vals (cntL n l))[i]? = some (.int .i64 (cntI l i)) := by
  simp [cntL, vals, h]
theorem cntL_set (n : Nat) (l : List Int) (k x : Nat) (h : k < l.length) (hx : l.getD k 0 = (x : Int)) (hn : x < n) : (vals (cntL n (l.take k))).set x (.int .i64 (cntI (l.take k) x + 1)) = vals (cntL n (l.take (k + 1))) := by
  refine List.ext_getElem (by simp [cntL, vals]) fun i h1 h2 => ?_
  rw [List.getElem_set]
  simp only [cntL, vals, List.getElem_map, List.getElem_range]
  rw [cntI_succ l k i h, hx]
  by_cases c : x = i
  · subst c; simp
  · rw [if_neg c, if_neg (by omega), Int.add_zero]
def seqB (d l : List Int) : Bool := rngB l d.length l.length && eqB (cntL d.length l) d
def seqO (d l : List Int) : Bool := okD d && seqB d l
theorem seqO_parts {d l : List Int} (h : seqO d l = true) : okD d = true ∧ rngB l d.length l.length = true ∧ cntL d.length l = d := by
  unfold seqO seqB eqB at h
  simp only [Bool.and_eq_true, decide_eq_true_eq] at h
  exact ⟨h.1, h.2.1, h.2.2⟩
theorem cnt_sum (l : List Int) : ∀ (n : Nat), (∀ z ∈ l, 0 ≤ z ∧ z < (n : Int)) → (cntL n l).sum = l.length := by
  induction l with
  | nil =>
    intro n _
    have : ∀ n, (cntL n []).sum = 0 := by
      intro n; induction n with
      | zero => rfl
      | succ n ih => unfold cntL at ih ⊢; rw [List.range_succ, List.map_append, List.sum_append, ih]; rfl
    simpa using this n
  | cons a t ih =>
    intro n h
    have h1 := ih n (fun z hz => h z (List.mem_cons_of_mem _ hz))
    have h2 := h a (List.mem_cons_self ..)
    have : ∀ m : Nat, (cntL m (a :: t)).sum = (cntL m t).sum + (if a < (m : Int) then 1 else 0) := by
      intro m
      induction m with
      | zero => simp [cntL]; omega
      | succ m ihm =>
        unfold cntL at ihm ⊢
        rw [List.range_succ, List.map_append, List.map_append, List.sum_append, List.sum_append, ihm]
        have e : cntI (a :: t) m = cntI t m + (if a = (m : Int) then 1 else 0) := by
          unfold cntI
          rw [List.countP_cons]
          by_cases c : a = (m : Int)
          · simp [c]
          · simp [c]
        simp only [List.map_cons, List.map_nil, List.sum_cons, List.sum_nil, Int.add_zero]
        rw [e]
        by_cases c1 : a < (m : Int)
        · rw [if_pos c1, if_neg (by omega), if_pos (by omega)]; omega
        · by_cases c2 : a = (m : Int)
          · rw [if_neg c1, if_pos c2, if_pos (by omega)]; omega
          · rw [if_neg c1, if_neg c2, if_neg (by omega)]; omega
    rw [this n, if_pos h2.2, h1]; simp
theorem seqO_len {d l : List Int} (h : seqO d l = true) : (l.length : Int) = d.sum ∧ l.length ≤ 240 := by
  obtain ⟨h1, h2, h3⟩ := seqO_parts h
  have h4 := cnt_sum l d.length (fun z hz => by
    obtain ⟨k, hk, rfl⟩ := List.getElem_of_mem hz
    have := rngB_at h2 hk
    rw [getD_get l k hk] at this; omega)
  rw [h3] at h4
  have := okD_sum h1
  omega
set_option maxHeartbeats 1600000 in
theorem l08Sequence_any (ad : Option Addr) (cap : Nat) (d : List Int) (bd : Option Addr) (bcap : Nat) (l : List Int) (w : World) (hz : Ints w ad d) (hl : Ints w bd l) (h6 : d.length ≤ 6) :
    Calls Try.prog 62 #[.slice ad d.length cap, .slice bd l.length bcap] w fun e w' => e = .returned (.bool (seqB d l)) ∧ Keep w w' := by
  obtain ⟨i0, hi, hz0, hz1, hz2⟩ := info_parts Try.infoI
  have hb8 : i0.bytes * d.length ≤ 281474976710656 := by rw [hz2]; omega
  have hml : d.length ≤ maxLen := by unfold maxLen; omega
  obtain ⟨V, hV⟩ : ∃ V, V = seqB d l := ⟨_, rfl⟩
  rw [← hV]
  have HV := Lib.hid hV
  clear hV
  go_enter Try.func62, Try.ntmps62
  go_wp2_with (at_make; refine wpList_make_full w rfl _ _ 24 rfl w.heap.size 2 i0 (.int .i64 0) 1 Try.underlying24 hi hz0 hz1 .i64 .i64 _ _ d.length rfl rfl rfl rfl hb8 hml (Nat.le_refl _) ?_)
  intro w0 hown0 hgrow0
  have hown0 : w0.ownsRow w.heap.size 2 1 (.slice (some ⟨w.heap.size, 0, none⟩) d.length d.length) d.length (List.replicate d.length (.int .i64 0)) := by simpa [Value.cells, toList_madeCells_one] using hown0
  have hk0 : Keep w w0 := (Below.refl _ _).grown hgrow0 (Nat.le_refl _) (fun k h => by cases h)
  clear hgrow0
  obtain ⟨B, hB⟩ : ∃ B, B = w.heap.size := ⟨_, rfl⟩
  rw [← hB] at hown0 ⊢
  have HB := Lib.hid hB; clear hB
  have hlen := hl.small
  have hdl := hz.small
  have HLN := Lib.hid (cntL_len d.length)
  go_wp2
  go_loopw [6] (fun i wr => ∃ k : Nat, k ≤ l.length ∧ i = .int .i64 k ∧ Hid (wr.ownsRow B 2 1 (.slice (some ⟨B, 0, none⟩) d.length d.length) d.length (vals (cntL d.length (l.take k)))) ∧ Hid (Below B w wr) ∧ Hid (rngB l d.length k = true))
    (fun i _ => l.length - (intOf i).toNat)
  case atStart => exact ⟨0, Nat.zero_le _, rfl, Lib.hid (by rw [List.take_zero, cntL_nil]; exact hown0), Lib.hid (by rw [HB.out]; exact hk0), Lib.hid (by simp [rngB])⟩
  case round =>
    obtain ⟨k, hk, rfl, HO, HK, HR⟩ := hrel
    by_cases hlt : k < l.length
    · rcases (hl.keep HK.out (by rw [HB.out]; exact Nat.le_refl _)).at_ with h | ⟨b, off, rfl, hb1, hc⟩
      · subst h; simp at hlt
      have hcx := hc k hlt
      have HN := Lib.hid (rngB_succ l d.length k)
      have HF := Lib.hid (fun (hf : inB (l.getD k 0) 0 ((d.length : Int) - 1) = false) => rngB_no hlt hf)
      have HS := Lib.hid (fun x => cntL_set d.length l k x hlt)
      have hcb := Lib.hid (fun i => cntI_bd l k i (by omega))
      clear hc
      generalize l.getD k 0 = xi at hcx HN HF HS
      have W1 : IntKind.i64.wrap ((d.length : Int) - 1) = (d.length : Int) - 1 := IntWalk.i64_in _ (by omega)
      cases hin : inB xi 0 ((d.length : Int) - 1)
      · go_wp2_with (go_at_call 92; refine (l00In_any _ _ _ _).mono ?_; (first | rw [hin] | rw [W1, hin]); rintro e w' ⟨rfl, rfl⟩)
        go_ret
        exact ⟨ret_bool (by rw [HV.out]; unfold seqB; rw [HF.out hin]; rfl), by have := HK.out; rw [HB.out] at this; exact this⟩
      · have hx := inB_iff.1 hin
        obtain ⟨x, rfl⟩ : ∃ x : Nat, xi = x := ⟨xi.toNat, by omega⟩
        have hxn : x < d.length := by omega
        have hxi : (x : Int) < (d.length : Int) := by omega
        have hcy : wr.cell? ⟨B, x, none⟩ = some (.int .i64 (cntI (l.take k) x)) := by rw [HO.out.cellAt x (by omega), cntL_at _ _ x hxn]
        have hfy := HO.out.frozenAt x
        have HST := Lib.hid (HO.out.stored x (.int .i64 (cntI (l.take k) x + 1)))
        have hcc := hcb.out x
        have hS := Lib.hid (HS.out x rfl hxn)
        generalize cntI (l.take k) x = c at hcy hcc HST hS
        have W2 : IntKind.i64.wrap (c + 1) = c + 1 := IntWalk.i64_in _ (by omega)
        go_wp2_with (go_at_call 92; refine (l00In_any _ _ _ _).mono ?_; (first | rw [hin] | rw [W1, hin]); rintro e w' ⟨rfl, rfl⟩)
        go_roundw
        case rel =>
          obtain ⟨s1, s2⟩ := HST.out
          rw [hS.out] at s1
          exact ⟨k + 1, by omega, by go_num, Lib.hid s1, Lib.hid (HK.out.setCell (Nat.le_refl _) _), Lib.hid (by rw [HN.out, HR.out, hin]; rfl)⟩
        case measure => simp [intOf]; omega
    · have HE := Lib.hid (show k = l.length by omega)
      have HIN : Hid (Ints wr (some ⟨B, 0, none⟩) (cntL d.length l)) := Lib.hid (by
        have o := HO.out
        rw [HE.out, List.take_length] at o
        have : Own wr B (some ⟨B, 0, none⟩) d.length (cntL d.length l) := ⟨by rw [HLN.out]; exact o, by rw [HLN.out]; omega, fun z hz => by
          obtain ⟨i, _, rfl⟩ := List.mem_map.1 hz
          have := cntI_bd l l.length i (Nat.le_refl _)
          rw [List.take_length] at this
          exact ⟨by omega, by omega⟩⟩
        exact this.ints)
      have HSM := Lib.hid (l00Same_any (some ⟨B, 0, none⟩) ad d.length cap (cntL d.length l) d wr HIN.out (hz.keep HK.out (by rw [HB.out]; exact Nat.le_refl _)))
      rw [HLN.out] at HSM
      go_wp2_with (go_at_call 94; refine HSM.out.mono ?_; rintro e w9 ⟨rfl, k9⟩)
      go_ret
      refine ⟨ret_bool (by rw [HV.out]; unfold seqB; rw [← HE.out, HR.out]; rfl), ?_⟩
      have h := HK.out; rw [HB.out] at h
      exact Keep.next h k9
set_option maxHeartbeats 1600000 in
theorem IsSequence_any (ad : Option Addr) (cap : Nat) (d : List Int) (bd : Option Addr) (bcap : Nat) (l : List Int) (w : World) (hz : Ints w ad d) (hl : Ints w bd l) :
    Calls Try.prog 21 #[.slice ad d.length cap, .slice bd l.length bcap] w fun e w' => e = .returned (.bool (seqO d l)) ∧ Keep w w' := by
  have hdl := hz.small
  have hlen := hl.small
  cases hok : okD d
  · rw [show seqO d l = false from by unfold seqO; rw [hok]; rfl]
    go_enter Try.func21, Try.ntmps21
    go_wp2_with (go_at_call 27; refine (ValidDemands_any _ _ _ _ hz).mono ?_; rw [hok]; rintro e w' ⟨rfl, rfl⟩)
    go_ret
    exact ⟨rfl, Below.refl _ _⟩
  rw [show seqO d l = seqB d l from by unfold seqO; rw [hok]; rfl]
  have hp := okD_parts hok
  have h6 := hp.2.1
  have h1 := hp.1
  obtain ⟨V, hV⟩ : ∃ V, V = seqB d l := ⟨_, rfl⟩
  rw [← hV]
  have HV := Lib.hid hV
  clear hV hp
  have A0 := Arr.new w
  have K0 : Below w.heap.size w (w.alloc (.cells #[.int .i64 0, .int .i64 0, .int .i64 0, .int .i64 0, .int .i64 0, .int .i64 0] 65)) := by go_grown
  obtain ⟨B, hB⟩ : ∃ B, B = w.heap.size := ⟨_, rfl⟩
  rw [← hB] at A0
  have HB := Lib.hid hB
  have HA0 := Lib.hid A0; have HK0 := Lib.hid K0
  clear A0 K0
  go_enter Try.func21, Try.ntmps21
  go_wp2_with (go_at_call 27; refine (ValidDemands_any _ _ _ _ hz).mono ?_; rw [hok]; rintro e w' ⟨rfl, rfl⟩)
  rw [← hB]
  clear hB
  go_loopw [7, 13] (fun _ i wr => ∃ k : Nat, k ≤ l.length ∧ i = .int .i64 k ∧ Hid (Arr wr B (cntI (l.take k))) ∧ Hid (Below B w wr) ∧ Hid (rngB l d.length k = true))
    (fun _ i _ => l.length - (intOf i).toNat)
  case atStart => exact ⟨0, Nat.zero_le _, rfl, Lib.hid (HA0.out.same (fun i _ => by rw [List.take_zero, cntI_nil])), Lib.hid (by rw [HB.out]; exact HK0.out), Lib.hid (by simp [rngB])⟩
  case round =>
    obtain ⟨k, hk, rfl, HA, HK, HR⟩ := hrel
    by_cases hlt : k < l.length
    · rcases (hl.keep HK.out (by rw [HB.out]; exact Nat.le_refl _)).at_ with h | ⟨b, off, rfl, hb1, hc⟩
      · subst h; simp at hlt
      have hcx := hc k hlt
      have HN := Lib.hid (rngB_succ l d.length k)
      have HF := Lib.hid (fun (hf : inB (l.getD k 0) 0 ((d.length : Int) - 1) = false) => rngB_no hlt hf)
      have HS := Lib.hid (fun i => cntI_succ l k i hlt)
      have hcb := Lib.hid (fun i => cntI_bd l k i (by omega))
      clear hc
      generalize l.getD k 0 = xi at hcx HN HF HS
      have W1 : IntKind.i64.wrap ((d.length : Int) - 1) = (d.length : Int) - 1 := IntWalk.i64_in _ (by omega)
      cases hin : inB xi 0 ((d.length : Int) - 1)
      · go_wp2_with (go_at_call 58; refine (within_any _ _ _ _).mono ?_; (first | rw [hin] | rw [W1, hin]); rintro e w' ⟨rfl, rfl⟩)
        go_ret
        exact ⟨ret_bool (by rw [HV.out]; unfold seqB; rw [HF.out hin]; rfl), by have := HK.out; rw [HB.out] at this; exact this⟩
      · have hx := inB_iff.1 hin
        obtain ⟨x, rfl⟩ : ∃ x : Nat, xi = x := ⟨xi.toNat, by omega⟩
        have hx6 : x < 6 := by omega
        have hx6i : (x : Int) < 6 := by omega
        have hcy := HA.out.cell x hx6
        have hfy := HA.out.frozen x
        have HST := Lib.hid (HA.out.set x hx6 (cntI (l.take k) x + 1))
        have hcc := hcb.out x
        have HE : Hid (∀ i, i < 6 → (if i = x then cntI (l.take k) x + 1 else cntI (l.take k) i) = cntI (l.take (k + 1)) i) := Lib.hid (fun i _ => by
          rw [HS.out i]
          by_cases c : i = x
          · subst c; rw [if_pos rfl, if_pos rfl]
          · rw [if_neg c, if_neg (by omega), Int.add_zero])
        generalize cntI (l.take k) x = c at hcy hcc HST HE
        have W2 : IntKind.i64.wrap (c + 1) = c + 1 := IntWalk.i64_in _ (by omega)
        go_wp2_with (go_at_call 58; refine (within_any _ _ _ _).mono ?_; (first | rw [hin] | rw [W1, hin]); rintro e w' ⟨rfl, rfl⟩)
        go_roundw
        case rel => exact ⟨k + 1, by omega, by go_num, Lib.hid (HST.out.same HE.out), Lib.hid (HK.out.setCell (Nat.le_refl _) _), Lib.hid (by rw [HN.out, HR.out, hin]; rfl)⟩
        case measure => simp [intOf]; omega
    · have HE := Lib.hid (show k = l.length by omega)
      have HAl : Hid (Arr wr B (cntI l)) := Lib.hid (by have h := HA.out; rw [HE.out, List.take_length] at h; exact h)
      have HG := Lib.hid (fun W (k : Keep wr W) => goalOf_any ad cap d W ((hz.keep HK.out (by rw [HB.out]; exact Nat.le_refl _)).keep k (Nat.le_refl _)) h6)
      have HFIN : Hid (V = sixB (cntI l) (fun i => d.getD i 0)) := Lib.hid (by
        rw [HV.out]; unfold seqB eqB
        have hr := HR.out
        rw [HE.out] at hr
        rw [hr, Bool.true_and, Bool.eq_iff_iff, sixB_iff, decide_eq_true_eq]
        constructor
        · intro h i hi
          show cntI l i = d.getD i 0
          by_cases c : i < d.length
          · rw [← cntL_get d.length l i c, h]
          · rw [cntI_none hr i (by omega)]; simp [List.getD_eq_getElem?_getD, show d.length ≤ i by omega]
        · intro h
          refine List.ext_getElem (by rw [cntL_len]) (fun i h1 h2 => ?_)
          have e : cntI l i = d.getD i 0 := h i (by omega)
          rw [← getD_get _ i h1, cntL_get d.length l i h2, e, getD_get d i h2])
      have hQ := fun W => six_equal (cntI l) (fun i => d.getD i 0) W
      rw [← HFIN.out] at hQ
      generalize six (fun i => d.getD i 0) = Y at hQ HG
      have HS : Hid (∀ W, Keep wr W → Arr W B (cntI l)) := Lib.hid (fun W k => HAl.out.keep k HAl.out.lt)
      generalize cntI l = f at *
      unfold six at hQ
      have HC : Hid (∀ W, Arr W B f → W.cell? ⟨B, 0, none⟩ = some (.int .i64 (f 0)) ∧ W.cell? ⟨B, 1, none⟩ = some (.int .i64 (f 1)) ∧ W.cell? ⟨B, 2, none⟩ = some (.int .i64 (f 2)) ∧ W.cell? ⟨B, 3, none⟩ = some (.int .i64 (f 3)) ∧ W.cell? ⟨B, 4, none⟩ = some (.int .i64 (f 4)) ∧ W.cell? ⟨B, 5, none⟩ = some (.int .i64 (f 5))) :=
        Lib.hid (fun W h => ⟨h.cell 0 (by omega), h.cell 1 (by omega), h.cell 2 (by omega), h.cell 3 (by omega), h.cell 4 (by omega), h.cell 5 (by omega)⟩)
      have HD : Hid (∀ W, Keep wr W → (W.cell? ⟨B, 0, none⟩ = some (.int .i64 (f 0)) ∧ W.cell? ⟨B, 1, none⟩ = some (.int .i64 (f 1)) ∧ W.cell? ⟨B, 2, none⟩ = some (.int .i64 (f 2)) ∧ W.cell? ⟨B, 3, none⟩ = some (.int .i64 (f 3)) ∧ W.cell? ⟨B, 4, none⟩ = some (.int .i64 (f 4)) ∧ W.cell? ⟨B, 5, none⟩ = some (.int .i64 (f 5))) ∧ Keep wr W) :=
        Lib.hid (fun W k => ⟨HC.out W (HS.out W k), k⟩)
      go_wp2_with fail
      go_region_held3 (fun W => (W.cell? ⟨B, 0, none⟩ = some (.int .i64 (f 0)) ∧ W.cell? ⟨B, 1, none⟩ = some (.int .i64 (f 1)) ∧ W.cell? ⟨B, 2, none⟩ = some (.int .i64 (f 2)) ∧ W.cell? ⟨B, 3, none⟩ = some (.int .i64 (f 3)) ∧ W.cell? ⟨B, 4, none⟩ = some (.int .i64 (f 4)) ∧ W.cell? ⟨B, 5, none⟩ = some (.int .i64 (f 5))) ∧ Keep wr W)
        (first | exact HD.out _ (Keep.next (by go_grown) k9) | exact HD.out _ (by go_grown))
        (first | (go_at_call 59; refine (HG.out _ (by go_grown)).mono ?_; rintro e w9 ⟨rfl, k9⟩))
      go_wp2
      go_ret
      exact ⟨rfl, by have h := HK.out; rw [HB.out] at h; exact Keep.next h (Keep.next (by go_grown) k9)⟩
end Go.Proofs.Ytmckbjhmkcbjgaa
