/- The family of laminar groups, as the program makes it. -/
import Derived.Test.YtjfepogmphjliabFam4
import Derived.Test.YtjfepogmphjliabLam4c
import Derived.Deep.Upon
namespace Go.Proofs.Ytjfepogmphjliab
open Go.ChangeShapes Go.WideShapes Go.ChangeAt Go.RowKit Go.Deep
set_option linter.unusedVariables false
theorem Try.infoU : (Try.prog.info? 51).map (fun i => (i.zero, i.size, i.bytes)) = some (some (.int .u64 0), 1, 8) := by kernel_rfl
abbrev valsU (ns : List Nat) : List Value := ns.map fun (n : Nat) => Value.int .u64 n
/-- Sets of the call's own, from block B on. -/
def OwnU (w : World) (B : Nat) (ad : Option Addr) (cap : Nat) (ns : List Nat) : Prop :=
  w.ownsRow B 51 1 (.slice ad ns.length cap) ns.length (valsU ns) ∧ ns.length ≤ 1099511627776
theorem OwnU.keep {w w' : World} {B : Nat} {ad : Option Addr} {cap : Nat} {ns : List Nat} (h : OwnU w B ad cap ns) (k : Keep w w') : OwnU w' B ad cap ns := by
  refine ⟨h.1.kept (row := none) ⟨k.os, k.tape, k.output, k.size, fun j hj _ => k.block j hj⟩ ?_, h.2⟩
  rcases own_block h.1 with ⟨rfl, _⟩ | ⟨g, rfl, _⟩
  · exact .inl rfl
  · right; simp [Value.ownBlock]
theorem OwnU.mono {w : World} {B B' : Nat} {ad : Option Addr} {cap : Nat} {ns : List Nat} (h : OwnU w B ad cap ns) (k : B' ≤ B) : OwnU w B' ad cap ns := by
  refine ⟨⟨h.1.1, ?_⟩, h.2⟩
  rcases h.1.2 with h1 | ⟨g, c, cur, h1, h2, h3⟩
  · exact .inl h1
  · exact .inr ⟨g, c, cur, h1, by omega, h3⟩
theorem OwnU.nil (w : World) (B : Nat) : OwnU w B none 0 [] := ⟨World.ownsRow_nil _ _ _ _, by simp⟩
/-- What reading asks: the cells. -/
theorem OwnU.at_ {w : World} {B : Nat} {ad : Option Addr} {cap : Nat} {ns : List Nat} (h : OwnU w B ad cap ns) : ns = [] ∨ ∃ b, ad = some ⟨b, 0, none⟩ ∧ b < w.heap.size ∧ B ≤ b ∧ ∀ i, i < ns.length → w.cell? ⟨b, i, none⟩ = some (.int .u64 (ns.getD i 0 : Nat)) := by
  rcases own_block h.1 with ⟨_, h2, _⟩ | ⟨g, rfl, h1, h2, _⟩
  · exact .inl (List.eq_nil_of_length_eq_zero h2)
  · refine .inr ⟨g, rfl, h2, h1, fun i hi => ?_⟩
    have := h.1.cellAt i (by omega)
    rw [this]
    simp [hi]
theorem below_ownU {w0 w w' : World} {B lo n cap : Nat} {ad : Option Addr} {ns : List Nat} (h : Below B w0 w) (o : OwnU w lo ad cap ns) (m : w.grownBy w' (Value.slice ad n cap).ownBlock) (hB : B ≤ w.heap.size) (hlo : B ≤ lo) : Below B w0 w' := by
  refine h.grown m hB fun k hk => ?_
  rcases own_block o.1 with ⟨rfl, _⟩ | ⟨k2, rfl, h4, _⟩
  · simp [Value.ownBlock] at hk
  · simp [Value.ownBlock] at hk; omega
theorem list_appU {ops : Array Oper} {rest : List Oper} {o : Oper} {a : Act} {w : World} {Q : Exit → Act → World → Prop} (hgd : o.guard = none) (s x : Operand)
    (ho : o.op = .call { callee := .builtin .append, args := #[s, x], argTypes := #[42, 42] })
    (B : Nat) (ad : Option Addr) (cap n : Nat) (ns : List Nat) (y : Nat) (hs : a.eval s = .slice ad n cap) (hown : OwnU w B ad cap ns) (hn : n = ns.length) (nb : Nat) (hx : a.eval x = .slice (some ⟨nb, 0, none⟩) 1 1)
    (hc : w.cell? ⟨nb, 0, none⟩ = some (.int .u64 (y : Nat))) (hl : ns.length < 1099511627776) (hB : B ≤ w.heap.size)
    (h : ∀ ad' cap' w', OwnU w' B ad' cap' (ns ++ [y]) → w.grownBy w' (Value.slice ad n cap).ownBlock → wpList Try.prog ops Q rest (a.put o.dst (.slice ad' (n + 1) cap')) w') : wpList Try.prog ops Q (o :: rest) a w := by
  obtain ⟨i0, hi, hz0, hz1, hz2⟩ := info_parts Try.infoU
  subst hn
  refine wpList_append_lies w hgd s x 42 ho B 51 i0 (.int .u64 0) 1 8 Try.underlying42 hi hz0 hz1 hz2 rfl (by omega) (.slice ad ns.length cap) ns.length (valsU ns) hs hown.1 ⟨nb, 0, none⟩ 1 1 [.int .u64 (y : Nat)] hx rfl ?_ ?_ (by omega) (by unfold maxLen; omega) (by omega) hB _ rfl ?_
  · intro j u hj
    match j, hj with
    | 0, hj => simp at hj; subst hj; simpa [Addr.add] using hc
  · intro u hu; simp at hu; subst hu; rfl
  · intro g cap' w' h1 h2 _ _
    refine h (some ⟨g, 0, none⟩) cap' w' ⟨?_, ?_⟩ h2
    · simpa [valsU] using h1
    · simp; omega
/-- The sets of groups. -/
def famL (zss : List (List Int)) : List Nat := zss.map bitsOf
theorem famL_succ (zss : List (List Int)) (k : Nat) (h : k < zss.length) : famL (zss.take (k + 1)) = famL (zss.take k) ++ [bitsOf (zss.getD k [])] := by
  unfold famL; rw [List.take_succ_eq_append_getElem h, List.map_append, getDD_get zss k h]; rfl
theorem famL_get (zss : List (List Int)) (k j : Nat) (h : j < k) (hk : k ≤ zss.length) : (famL (zss.take k)).getD j 0 = bitsOf (zss.getD j []) := by
  unfold famL; simp [List.getD_eq_getElem?_getD, h, show j < zss.length from by omega]
theorem famL_len (zss : List (List Int)) (k : Nat) (hk : k ≤ zss.length) : (famL (zss.take k)).length = k := by simp [famL]; omega
noncomputable def famV (g : Int) (zs : List Int) (zss : List (List Int)) : List Nat := if lamV g zs zss then famL zss ++ [2 ^ zs.length - 1] else []
theorem nest_of {n : Nat} {a b : List Int} (ha : risesB a 0 ((n : Int) - 1) = true) (hb : risesB b 0 ((n : Int) - 1) = true) : fitB a b = nestB (bitsOf b) (bitsOf a) :=
  fit_nest a b (fun z hz => (rises_nn (rises_to ha) z hz).1) (fun z hz => (rises_nn (rises_to hb) z hz).1) (rises_nodup (rises_to ha)) (rises_nodup (rises_to hb))
theorem bits_bd {n : Nat} (hn : n ≤ 40) {a : List Int} (ha : risesB a 0 ((n : Int) - 1) = true) : bitsOf a < 18446744073709551616 := by
  have := bitsOf_lt a 40 (fun z hz => by have := rises_nn (rises_to ha) z hz; omega)
  exact Nat.lt_trans this (by decide)
set_option maxHeartbeats 3200000 in
set_option maxRecDepth 100000 in
theorem familyOf_any (g : Int) (ad : Option Addr) (cap : Nat) (zs : List Int) (bd : Option Addr) (bcap : Nat) (zss : List (List Int)) (w : World) (hz : Ints w ad zs) (hg : Intss w bd zss) :
    Calls Try.prog 19 #[valV g ad zs.length cap, .slice bd zss.length bcap] w fun e w' =>
      ∃ rd rc, e = .returned (.tuple #[.slice rd (famV g zs zss).length rc, .bool (lamV g zs zss)]) ∧ OwnU w' w.heap.size rd rc (famV g zs zss) ∧ Keep w w' := by
  have B0 : Box (w.alloc (.cells #[.int .i64 g, .slice ad zs.length cap] 29)) w.heap.size g ad zs.length cap := ⟨by simp, by simp, by simp⟩
  have hsm := hg.small
  cases h1 : okV g zs
  · rw [show lamV g zs zss = false from by simp [lamV, h1], show famV g zs zss = [] from by simp [famV, lamV, h1]]
    go_enter Try.func19, Try.ntmps19
    go_wp2_with fail
    refine (ValidValues_any g ad cap zs _ (hz.keep (B := _) (by go_grown) (Nat.le_refl _))).mono ?_
    rw [h1]
    rintro e w1 ⟨rfl, k1⟩
    have g1 : Keep w w1 := Keep.next (by go_grown) k1
    go_wp2
    go_ret2
    exact ⟨none, 0, rfl, OwnU.nil _ _, g1⟩
  by_cases h12 : zss.length ≤ 12
  case neg =>
    have hl : lamB zs.length zss = false := by unfold lamB; simp [h12]
    rw [show lamV g zs zss = false from by simp [lamV, hl], show famV g zs zss = [] from by simp [famV, lamV, hl]]
    have h12b : ¬ (zss.length : Int) ≤ 12 := by omega
    go_enter Try.func19, Try.ntmps19
    go_wp2_with fail
    refine (ValidValues_any g ad cap zs _ (hz.keep (B := _) (by go_grown) (Nat.le_refl _))).mono ?_
    rw [h1]
    rintro e w1 ⟨rfl, k1⟩
    have g1 : Keep w w1 := Keep.next (by go_grown) k1
    go_wp2
    go_ret2
    exact ⟨none, 0, rfl, OwnU.nil _ _, g1⟩
  have h40 := okV_len h1
  have HLF : Hid (lamB zs.length zss = false → lamV g zs zss = false ∧ famV g zs zss = []) := Lib.hid (fun hl => ⟨by simp [lamV, hl], by simp [famV, lamV, hl]⟩)
  have HLT : Hid (lamB zs.length zss = true → lamV g zs zss = true ∧ famV g zs zss = famL zss ++ [2 ^ zs.length - 1]) := Lib.hid (fun hl => ⟨by simp [lamV, hl, h1], by simp [famV, lamV, hl, h1]⟩)
  generalize lamV g zs zss = LV at *
  generalize famV g zs zss = FV at *
  go_enter Try.func19, Try.ntmps19
  go_wp2_with fail
  refine (ValidValues_any g ad cap zs _ (hz.keep (B := _) (by go_grown) (Nat.le_refl _))).mono ?_
  rw [h1]
  rintro e w1 ⟨rfl, k1⟩
  have g1 : Keep w w1 := Keep.next (by go_grown) k1
  have BX := Lib.hid (B0.keep k1)
  have HG := Lib.hid (hg.keep g1 (Nat.le_refl _))
  have G1 := Lib.hid g1
  clear k1 g1 B0 hz hg
  have hws : w.heap.size ≤ w1.heap.size := G1.out.size
  go_wp2
  go_loopg [6, 8, 9, 10, 12, 23] zss.length (fun kk fv _ _ _ _ i wr => ∃ (k : Nat) (fa : Option Addr) (fc : Nat), k ≤ zss.length ∧ kk = zss.length - k ∧ i = .int .i64 k ∧ fv = .slice fa k fc ∧ Hid (OwnU wr w1.heap.size fa fc (famL (zss.take k))) ∧ Hid (LamTo zs.length zss k) ∧ Hid (Keep w1 wr))
  case atStart => exact ⟨0, none, 0, Nat.zero_le _, rfl, rfl, rfl, Lib.hid (OwnU.nil _ _), Lib.hid ⟨fun j h => by omega, fun _ j h => by omega⟩, Lib.hid (Below.refl _ _)⟩
  case round =>
    obtain ⟨k, fa, fc, hk, rfl, rfl, rfl, HO, HL, HB⟩ := hrel
    have HKL := Lib.hid (famL_len zss k hk)
    by_cases hlt : k < zss.length
    · rcases (HG.out.keep HB.out (Nat.le_refl _)).at_ with h | ⟨b, off, rfl, hb, hc⟩
      · subst h; simp at hlt
      obtain ⟨p, c, hcx, hpc, hints⟩ := hc k hlt
      have HF := Lib.hid (fun h => lamB_falls (n := zs.length) hlt h)
      have HE := Lib.hid (fun h => lamB_empty (n := zs.length) hlt h)
      have HU := Lib.hid (fun m (hm : m < k) h => lamB_unfit (n := zs.length) hlt hm h)
      have HS := Lib.hid (fun h1 h2 h3 => LamTo.succ HL.out h1 h2 h3)
      have HFS := Lib.hid (famL_succ zss k hlt)
      have hsk := hints.small
      clear hc
      generalize zss.getD k [] = zk at hcx hpc hints HF HE HU HS hsk HFS
      obtain ⟨x0, x1, xl⟩ := BX.out.keep HB.out
      have HI := Lib.hid hints; clear hints
      cases hr : risesB zk 0 ((zs.length : Int) - 1)
      · go_wp2_with (go_at_call 32; refine (setOf_any zs.length h40 p c zk _ HI.out).mono ?_; rw [hr]; rintro e w2 ⟨rfl, rfl⟩)
        go_ret2
        obtain ⟨e1, e2⟩ := HLF.out (HF.out hr)
        refine ⟨none, 0, by rw [e1, e2]; rfl, by rw [e2]; exact OwnU.nil _ _, G1.out.next HB.out⟩
      have hbn := bits_ne0 (fun z hz => (rises_nn (rises_to hr) z hz).1)
      by_cases hz0 : zk.length = 0
      · have hz1 : (((bitsOf zk : Nat) : Int) == 0) = true := by rw [decide_eq_false (by simpa using hz0)] at hbn; simpa using hbn
        have hmv : memV zs.length zk = bitsOf zk := by unfold memV; rw [if_pos hr]
        have HZ0 := Lib.hid hz0; clear hz0 hbn
        have HR := Lib.hid (congrArg (fun b => Value.bool b) hr)
        clear hr
        generalize bitsOf zk = bk at *
        go_wp2_with (go_at_call 32; refine (setOf_any zs.length h40 p c zk _ HI.out).mono ?_; rw [hmv, show risesB zk 0 ((zs.length : Int) - 1) = true from Value.bool.inj HR.out]; clear hmv; rintro e w2 ⟨rfl, rfl⟩)
        go_ret2
        obtain ⟨e1, e2⟩ := HLF.out (HE.out HZ0.out)
        refine ⟨none, 0, by rw [e1, e2]; rfl, by rw [e2]; exact OwnU.nil _ _, G1.out.next HB.out⟩
      · have hz1 : (((bitsOf zk : Nat) : Int) == 0) = false := by rw [decide_eq_true (by simpa using hz0)] at hbn; simpa using hbn
        clear hbn
        have hmv : memV zs.length zk = bitsOf zk := by unfold memV; rw [if_pos hr]
        have hbk := bits_bd h40 hr
        have HMB := Lib.hid (congrArg (fun b => Value.bool b) hr)
        have HR := Lib.hid hr
        have HNF : Hid (∀ m, m < k → risesB (zss.getD m []) 0 ((zs.length : Int) - 1) = true ∧ (famL (zss.take k)).getD m 0 = bitsOf (zss.getD m [])) := Lib.hid (fun m hm => ⟨(HL.out.1 m hm).1, famL_get zss k m hm hk⟩)
        generalize famL (zss.take k) = FL at *
        clear hr
        generalize hbz : bitsOf zk = bk at *
        go_wp2_with (go_at_call 32; refine (setOf_any zs.length h40 p c zk _ HI.out).mono ?_; rw [hmv, show risesB zk 0 ((zs.length : Int) - 1) = true from Value.bool.inj HMB.out]; clear hmv; rintro e w2 ⟨rfl, rfl⟩)
        have HBZ := Lib.hid hbz; clear hbz
        go_loop [12, 43] (fun _ i => ∃ m : Nat, m ≤ k ∧ i = .int .i64 m ∧ Hid (∀ j, j < m → fitB (zss.getD j []) zk = true))
          (fun _ i => k - (intOf i).toNat)
        case atStart => exact ⟨0, Nat.zero_le _, rfl, Lib.hid (fun j h => by omega)⟩
        case round =>
          obtain ⟨m, hmk, rfl, HM⟩ := hrel
          by_cases hm : m < k
          · rcases HO.out.at_ with h | ⟨b2, rfl, hb2, hB2, hc2⟩
            · have := HKL.out; rw [h] at this; simp at this; omega
            have hcm := hc2 m (by rw [HKL.out]; exact hm)
            obtain ⟨r1, r2⟩ := HNF.out m hm
            rw [r2] at hcm
            have hbm := bits_bd h40 r1
            have HN : Hid (fitB (zss.getD m []) zk = nestB bk (bitsOf (zss.getD m []))) := Lib.hid (by rw [← HBZ.out]; exact nest_of r1 HR.out)
            have HMS : Hid (fitB (zss.getD m []) zk = true → ∀ j, j < m + 1 → fitB (zss.getD j []) zk = true) := Lib.hid (fun h j hj => by
              by_cases e : j = m
              · subst e; exact h
              · exact HM.out j (by omega))
            have HUm := Lib.hid (HU.out m hm)
            clear r1 r2 hc2
            generalize bitsOf (zss.getD m []) = bm at *
            cases hn : nestB bk bm
            · go_wp2_with (go_at_call 33; refine (nested_any bk bm _ hbk hbm).mono ?_; rw [hn]; rintro e w2 ⟨rfl, rfl⟩)
              go_ret2
              obtain ⟨e1, e2⟩ := HLF.out (HUm.out (by rw [HN.out, hn]))
              refine ⟨none, 0, by rw [e1, e2]; rfl, by rw [e2]; exact OwnU.nil _ _, G1.out.next HB.out⟩
            · go_wp2_with (go_at_call 33; refine (nested_any bk bm _ hbk hbm).mono ?_; rw [hn]; rintro e w2 ⟨rfl, rfl⟩)
              go_round
              case rel => exact ⟨m + 1, by omega, by go_num, Lib.hid (HMS.out (by rw [HN.out, hn]))⟩
              case measure => simp [intOf]; omega
          · have HMK := Lib.hid (show m = k from by omega)
            have hsr := HB.out.size
            go_wp2_with (refine list_appU (by rfl) _ _ (by rfl) w1.heap.size fa fc k FL bk (by rfl) (HO.out.keep (by go_grown)) HKL.out.symm wr.heap.size (by rfl) (by simp) (by rw [HKL.out]; omega) (by simp; omega) ?_; intro ad' cap' w3 hown3 hgr3; have hbel3 : Below w1.heap.size wr w3 := below_ownU (by go_grown) (HO.out.keep (by go_grown)) hgr3 (by simp; omega) (Nat.le_refl _))
            go_roundg (zss.length - (k + 1))
            case measure => omega
            case rel => exact ⟨k + 1, ad', cap', by omega, rfl, by go_num, rfl, Lib.hid (by rw [HFS.out]; exact hown3), Lib.hid (HS.out HR.out hz0 (fun _ => by have := HM.out; rwa [HMK.out] at this)), Lib.hid (HB.out.trans hbel3)⟩
    · have HK := Lib.hid (show k = zss.length from by omega)
      obtain ⟨x0, x1, xl⟩ := BX.out.keep HB.out
      have hlam : lamB zs.length zss = true := by rw [lamB_is (by have := HL.out; rwa [HK.out] at this)]; simp [h12]
      obtain ⟨e1, e2⟩ := HLT.out hlam
      have HE1 := Lib.hid e1; have HE2 := Lib.hid e2
      clear e1 e2 hlam
      have hsr := HB.out.size
      have hp : IntKind.u64.wrap (2 ^ zs.length) = ((2 ^ zs.length : Nat) : Int) := wrap_pow (x := (zs.length : Int)) (by omega)
      have hp1 : 1 ≤ 2 ^ zs.length := Nat.one_le_two_pow
      have hp2 : 2 ^ zs.length < 18446744073709551616 := Nat.lt_of_le_of_lt (Nat.pow_le_pow_right (by omega) h40) (by decide)
      have hp3 : IntKind.u64.wrap (((2 ^ zs.length : Nat) : Int) - 1) = ((2 ^ zs.length - 1 : Nat) : Int) := by
        rw [IntKind.wrap_u64]
        generalize 2 ^ zs.length = P at *
        omega
      have hp4 := hp3
      rw [show ((2 ^ zs.length : Nat) : Int) = (2 : Int) ^ zs.length from by norm_cast] at hp4
      have HP4 := Lib.hid hp4; clear hp4 hp3
      go_wp2_with (refine list_appU (by rfl) _ _ (by rfl) w1.heap.size fa fc k (famL (zss.take k)) (2 ^ zs.length - 1) (by rfl) (HO.out.keep (by go_grown)) HKL.out.symm wr.heap.size (by rfl) (by simp; exact HP4.out) (by rw [HKL.out]; omega) (by simp; omega) ?_; intro ad' cap' w3 hown3 hgr3; have hbel3 : Below w1.heap.size wr w3 := below_ownU (by go_grown) (HO.out.keep (by go_grown)) hgr3 (by simp; omega) (Nat.le_refl _))
      refine bodyPost_ret (v := .tuple #[.slice ad' (k + 1) cap', .bool true]) (by simp [results, Try.results19, go_sem]) rfl ?_
      have hown4 : OwnU w3 w1.heap.size ad' cap' (famL zss ++ [2 ^ zs.length - 1]) := by have h := hown3; rw [HK.out, List.take_length] at h; exact h
      refine ⟨ad', cap', ?_, ?_, G1.out.next (HB.out.trans hbel3)⟩
      · rw [HE1.out, HE2.out, HK.out]; simp [famL]
      · rw [HE2.out]; exact hown4.mono hws
theorem IsLaminar_any (g : Int) (ad : Option Addr) (cap : Nat) (zs : List Int) (bd : Option Addr) (bcap : Nat) (zss : List (List Int)) (w : World) (hz : Ints w ad zs) (hg : Intss w bd zss) :
    Calls Try.prog 10 #[valV g ad zs.length cap, .slice bd zss.length bcap] w fun e w' => e = .returned (.bool (lamV g zs zss)) ∧ Keep w w' := by
  go_enter Try.func10, Try.ntmps10
  go_wp2_with fail
  refine (familyOf_any g ad cap zs bd bcap zss _ (hz.keep (B := _) (by go_grown) (Nat.le_refl _)) (hg.keep (B := _) (by go_grown) (Nat.le_refl _))).mono ?_
  rintro e w1 ⟨rd, rc, rfl, o1, k1⟩
  have HK := Lib.hid (show Keep w w1 from Keep.next (by go_grown) k1)
  go_wp2
  go_ret
  exact ⟨rfl, HK.out⟩
end Go.Proofs.Ytjfepogmphjliab
