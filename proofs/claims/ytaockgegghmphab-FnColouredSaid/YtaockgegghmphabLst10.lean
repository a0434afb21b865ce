/- The parts of a set whose cost is least: the program's generic search, at sets. -/
import Derived.Test.YtaockgegghmphabPar10
import Derived.Test.YtaockgegghmphabDis10
import Derived.RangeFuncBox
import Derived.Deep.QuietTactic
namespace Go.Proofs.Ytaockgegghmphab
open Go.ChangeShapes Go.WideShapes Go.ChangeAt Go.RowKit Go.Shelf
set_option linter.unusedVariables false
def valsS (ns : List Nat) : List Value := ns.map fun n => .int .u64 (n : Nat)
@[simp] theorem valsS_length (ns : List Nat) : (valsS ns).length = ns.length := by simp [valsS]
/-- A slice of sets of the call's own. -/
def OwnS (w : World) (B : Nat) (ad : Option Addr) (cap : Nat) (ns : List Nat) : Prop := w.ownsRow B 76 1 (.slice ad ns.length cap) ns.length (valsS ns) ∧ ns.length ≤ 1099511627776
theorem Boxed.ints_lt {W : World} {B : Nat} {t : TypeId} {v : Value} (h : Go.Boxed W B t v) : B < W.heap.size := h.lt
theorem Try.infoS : (Try.prog.info? 76).map (fun i => (i.zero, i.size, i.bytes)) = some (some (.int .u64 0), 1, 8) := by kernel_rfl
theorem listS_append_run {F : Fence} {n : Nat} {P : Program} {ops : Array Oper} {rest : List Oper} {o : Oper} {a : Act} {w : World} {Q : Exit → Act → World → Prop} (hgd : o.guard = none) (s x : Operand) (t : TypeId)
    (hop : o.op = .call { callee := .builtin .append, args := #[s, x], argTypes := #[t, t] }) (sv xv : Value) (ty : TypeId) (hs : a.eval s = sv) (hx : a.eval x = xv) (hty : o.type = ty) (r : Value) (w1 : World) (hrun : (Builtin.append_ #[t, t] ty #[sv, xv]).run P w = .ok r w1) (h : wpListIn F n P ops Q rest (a.put o.dst r) w1) :
    wpListIn F n P ops Q (o :: rest) a w := by
  subst hs hx hty
  refine wpListIn_plain hgd fun K hK => ?_
  unfold Oper.wpIn
  refine ⟨?_, ?_⟩
  · simp [Oper.about, hop, resolve, Target.leads, Sem.run_pure]
  · rw [Oper.semAt_plain F _ _ (by rw [hop]; intro c hc'; cases hc')]
    simp [execOp, hop, resolve, invoke, builtin, hrun, Result.andThen]
    exact hK _ _ h
/-- The boxes of a search: the list found, its cost, the costs' function. -/
structure Fnd (U : World) (B fb lb cb : Nat) (v fv : Value) (ns : List Nat) (e : Int) : Prop where
  f : Go.Boxed U fb 130 v
  r : U.ownsRow B 76 1 v ns.length (valsS ns)
  l : Go.Boxed U lb 2 (.int .i64 e)
  c : Go.Boxed U cb 133 fv
theorem Fnd.keep {U U2 : World} {B fb lb cb : Nat} {v fv : Value} {ns : List Nat} {e : Int} (h : Fnd U B fb lb cb v fv ns e) (k : Keep U U2) : Fnd U2 B fb lb cb v fv ns e :=
  ⟨h.f.kept (keep_grown k none) (by simp), h.r.kept (keep_grown k none) (by
    rcases h.r.2 with ⟨rfl, _⟩ | ⟨g, cap, cur, rfl, _⟩
    · exact .inl rfl
    · exact .inr (by simp [Value.ownBlock])), h.l.kept (keep_grown k none) (by simp), h.c.kept (keep_grown k none) (by simp)⟩
theorem Fnd.app {U : World} {B fb lb cb : Nat} {v fv : Value} {ns : List Nat} {e : Int} (h : Fnd U B fb lb cb v fv ns e) (t : Nat) (hB : B ≤ U.heap.size) (hf : B ≤ fb) (n1 : fb ≠ lb) (n2 : fb ≠ cb) (hl : ns.length < 1099511627776) :
    ∃ g cap w1, (Builtin.append_ #[130, 130] 130 #[v, .slice (some ⟨U.heap.size, 0, none⟩) 1 1]).run Try.prog (U.alloc (.cells #[.int .u64 (t : Nat)] 76)) = .ok (.slice (some ⟨g, 0, none⟩) (ns.length + 1) cap) w1 ∧
      w1.cell? ⟨fb, 0, none⟩ = some v ∧ w1.frozen? ⟨fb, 0, none⟩ = false ∧
      Fnd (w1.setCell ⟨fb, 0, none⟩ (.slice (some ⟨g, 0, none⟩) (ns.length + 1) cap)) B fb lb cb (.slice (some ⟨g, 0, none⟩) (ns.length + 1) cap) fv (ns ++ [t]) e ∧
      KeepsOthers U (w1.setCell ⟨fb, 0, none⟩ (.slice (some ⟨g, 0, none⟩) (ns.length + 1) cap)) ∧ Below B U (w1.setCell ⟨fb, 0, none⟩ (.slice (some ⟨g, 0, none⟩) (ns.length + 1) cap)) := by
  obtain ⟨i0, hi, hz0, hz1, hz2⟩ := info_parts Try.infoS
  obtain ⟨g, cap, w1, hrun, hown, hgrow, _, _⟩ := run_append_lies (P := Try.prog) (U.alloc (.cells #[.int .u64 (t : Nat)] 76)) 130 130 B 76 i0 (.int .u64 0) 1 8 Try.underlying130 hi hz0 hz1 hz2 rfl (by decide) v ns.length (valsS ns) (h.r.alloc _) ⟨U.heap.size, 0, none⟩ 1 1 [.int .u64 (t : Nat)] rfl (cell_one_new U _ _) (by simp [Value.oneCell']) (by omega) (by unfold maxLen; omega) (by omega) (by simp; omega) _ rfl
  obtain ⟨hv1, hv2, hr2, hk2, hb2⟩ := h.f.appended (by decide) h.r hB hf hown hgrow
  have l1 := ((h.l.alloc (.cells #[.int .u64 (t : Nat)] 76)).kept hgrow (h.l.not_row (by decide) h.r)).other (B' := fb) (fun e => n1 e.symm) (.slice (some ⟨g, 0, none⟩) (ns.length + 1) cap)
  have c1 := ((h.c.alloc (.cells #[.int .u64 (t : Nat)] 76)).kept hgrow (h.c.not_row (by decide) h.r)).other (B' := fb) (fun e => n2 e.symm) (.slice (some ⟨g, 0, none⟩) (ns.length + 1) cap)
  refine ⟨g, cap, w1, hrun, hv1.cell, hv1.frozen, ⟨hv2, ?_, l1, c1⟩, hk2, hb2⟩
  rw [show valsS (ns ++ [t]) = valsS ns ++ [.int .u64 (t : Nat)] from by simp [valsS], List.length_append]
  exact hr2
theorem Fnd.clear {U : World} {B fb lb cb : Nat} {v fv : Value} {ns : List Nat} {e : Int} (h : Fnd U B fb lb cb v fv ns e) (e2 : Int) (hf : B ≤ fb) (hl : B ≤ lb) (n1 : fb ≠ lb) (n2 : fb ≠ cb) (n3 : lb ≠ cb) :
    Fnd ((U.setCell ⟨fb, 0, none⟩ (.slice none 0 0)).setCell ⟨lb, 0, none⟩ (.int .i64 e2)) B fb lb cb (.slice none 0 0) fv [] e2 ∧
    KeepsOthers U ((U.setCell ⟨fb, 0, none⟩ (.slice none 0 0)).setCell ⟨lb, 0, none⟩ (.int .i64 e2)) ∧ Below B U ((U.setCell ⟨fb, 0, none⟩ (.slice none 0 0)).setCell ⟨lb, 0, none⟩ (.int .i64 e2)) :=
  ⟨⟨(h.f.set (.slice none 0 0)).other n1 _, World.ownsRow_nil _ _ _ _, (h.l.other (fun e => n1 e.symm) _).set _, (h.c.other (fun e => n2 e.symm) _).other (fun e => n3 e.symm) _⟩,
    (KeepsOthers.setCell _ _ _).trans (KeepsOthers.setCell _ _ _), ((Below.refl _ _).setCell (p := ⟨fb, 0, none⟩) hf _).setCell (p := ⟨lb, 0, none⟩) hl _⟩
attribute [local go_sem] Oper.semAt_some
/-- What a search has found up to t. -/
def FndI (w : World) (fv : Value) (cb fb lb : Nat) (c : Nat → Int) (m : Nat) (t : Nat) (W : World) : Prop :=
  ((∃ v, Go.Boxed W fb 130 v ∧ W.ownsRow w.heap.size 76 1 v (fndT c m t).1.length (valsS (fndT c m t).1) ∧ ((fndT c m t).1 = [] → v = .slice none 0 0)) ∧
  (Go.Boxed W lb 2 (.int .i64 (fndT c m t).2) ∧ Go.Boxed W cb 133 fv)) ∧ Below w.heap.size w W
theorem fndI_own (w : World) (fv : Value) (cb fb lb : Nat) (c : Nat → Int) (m B : Nat) (hB : w.heap.size ≤ B) : OwnFrom B (FndI w fv cb fb lb c m) :=
  OwnFrom.and (OwnFrom.and (Go.Own.from (holdsRow_own w.heap.size fb 130 76 1 (fun t : Nat => (fndT c m t).1.length) (fun t : Nat => valsS (fndT c m t).1) (fun t v => (fndT c m t).1 = [] → v = .slice none 0 0)) _)
    (OwnFrom.and (Go.Own.from (boxed_own _ _ (fun t : Nat => .int .i64 (fndT c m t).2)) _) (Go.Own.from (boxed_own _ _ (fun _ : Nat => fv)) _))) (ownFrom_below (Nat.le_refl _) hB)
set_option maxRecDepth 100000 in
set_option maxHeartbeats 4000000 in
theorem leastOf_any (m : Nat) (hm : m < 4096) (c : Nat → Int) (hc : ∀ t, 0 ≤ c t ∧ c t ≤ 64) (xb pb : Nat) (w : World)
    (hC : ∀ t, t ≤ m → ∀ W, Keep w W → Calls Try.prog 104 #[.int .u64 (t : Nat), .pointer (some ⟨xb, 0, none⟩), .pointer (some ⟨pb, 0, none⟩)] W fun e W' => e = .returned (.int .i64 (c t)) ∧ Keep W W') :
    Calls Try.prog 103 #[.func (.func 69) #[.int .u64 m] #[], .func (.func 104) #[] #[.pointer (some ⟨xb, 0, none⟩), .pointer (some ⟨pb, 0, none⟩)]] w fun e w' =>
      ∃ rd rc, e = .returned (.tuple #[.slice rd (fndT c m (m + 1)).1.length rc, .int .i64 (fndT c m (m + 1)).2]) ∧ OwnS w' w.heap.size rd rc (fndT c m (m + 1)).1 ∧ Keep w w' := by
  refine (callsIn_wide (n := 9)).1 ?_
  refine callsIn_of_wp_marks Try.func103 rfl trivial ?_ rfl
  simp only [Try.ntmps103, List.size_toArray, List.length_cons, List.length_nil, Nat.reduceAdd, Nat.reduceSub, Array.replicate_succ, Array.replicate_zero, List.push_toArray, List.append_toArray, List.nil_append, List.cons_append]
  gi_wp2
  refine range_up rfl (by omega) (gf := 69) (bs := #[.int .u64 m]) (lb := #[]) rfl trivial (enters_of Try.func69 (by kernel_rfl) rfl)
    (parts_up Fence.wide 8 trivial rfl (by omega) m (by omega) _) (fun _ => rfl) (fun _ _ => trivial) (fun _ _ _ _ _ _ _ _ => trivial) (FndI w (.func (.func 104) #[] #[.pointer (some ⟨xb, 0, none⟩), .pointer (some ⟨pb, 0, none⟩)]) w.heap.size (w.heap.size + 1) (w.heap.size + 1 + 1) c m) ?own ?skip ?start ?round ?done
  case own => exact fndI_own _ _ _ _ _ _ _ _ (by simp; omega)
  case skip =>
    rintro t W _ hp h
    unfold FndI at h ⊢
    rw [fnd_skip c m t hp]; exact h
  case start =>
    have b0 := Go.Boxed.new w 133 (.func (.func 104) #[] #[.pointer (some ⟨xb, 0, none⟩), .pointer (some ⟨pb, 0, none⟩)])
    have b1 := Go.Boxed.new (w.alloc (.cells #[.func (.func 104) #[] #[.pointer (some ⟨xb, 0, none⟩), .pointer (some ⟨pb, 0, none⟩)]] 133)) 130 (.slice none 0 0)
    rw [World.size_alloc] at b1
    refine ⟨⟨⟨_, ?_, World.ownsRow_nil _ _ _ _, fun _ => rfl⟩, ?_, ?_⟩, by go_grown⟩
    · exact b1.alloc _
    · have b2 := Go.Boxed.new ((w.alloc (.cells #[.func (.func 104) #[] #[.pointer (some ⟨xb, 0, none⟩), .pointer (some ⟨pb, 0, none⟩)]] 133)).alloc (.cells #[.slice none 0 0] 130)) 2 (.int .i64 0)
      rw [World.size_alloc, World.size_alloc] at b2
      exact b2
    · exact (b0.alloc _).alloc _
  case round =>
    intro l t W ht hg hl hs hI
    gi_wp2
    refine ⟨trivial, fun U hU hIU => ?_⟩
    obtain ⟨⟨⟨v, hv, hrow, hnil⟩, hlb, hcb⟩, hB⟩ := hIU
    have htm : t ≤ m := by omega
    have HCC := Lib.hid (hC t htm U hB)
    have HST := Lib.hid (show fndT c m (t + 1) = (if (fndT c m t).1 = [] ∨ c t < (fndT c m t).2 then ([t], c t) else if c t = (fndT c m t).2 then ((fndT c m t).1 ++ [t], (fndT c m t).2) else fndT c m t) from by rw [fndT, hg]; rfl)
    have hfl := fnd_len c m t
    have HPR : Hid (fndT c m t = ((fndT c m t).1, (fndT c m t).2)) := Lib.hid rfl
    have HF0 := Lib.hid (show Fnd U w.heap.size (w.heap.size + 1) (w.heap.size + 1 + 1) w.heap.size v _ (fndT c m t).1 (fndT c m t).2 from ⟨hv, hrow, hlb, hcb⟩)
    have ccb := hcb.cell
    have hct := hc t
    have HNIL := Lib.hid hnil
    have HB := Lib.hid hB
    clear hI hs hv hrow hlb hcb hnil hB hg
    generalize c t = y at *
    generalize (fndT c m t).2 = e0 at *
    generalize (fndT c m t).1 = L at *
    gi_wp2_with fail
    refine ⟨trivial, ?_⟩
    refine (CallsIn.inRound l (callsIn_wide.2 HCC.out)).mono ?_
    rintro e U2 ⟨rfl, k2⟩
    have HF2 := Lib.hid (HF0.out.keep k2)
    have hUs : w.heap.size ≤ U2.heap.size := Nat.le_trans (Nat.le_trans (by simp; omega) hU) k2.size
    have HK2 := Lib.hid k2
    have fin : ∀ (W' : World) (v' : Value) (L' : List Nat) (e' : Int), Fnd W' w.heap.size (w.heap.size + 1) (w.heap.size + 1 + 1) w.heap.size v' (.func (.func 104) #[] #[.pointer (some ⟨xb, 0, none⟩), .pointer (some ⟨pb, 0, none⟩)]) L' e' → fndT c m (t + 1) = (L', e') → (L' = [] → v' = .slice none 0 0) → Below w.heap.size U2 W' →
        FndI w (.func (.func 104) #[] #[.pointer (some ⟨xb, 0, none⟩), .pointer (some ⟨pb, 0, none⟩)]) w.heap.size (w.heap.size + 1) (w.heap.size + 1 + 1) c m (t + 1) W' := fun W' v' L' e' h1 h2 h3 h4 => by
      unfold FndI; rw [h2]
      exact ⟨⟨⟨v', h1.f, h1.r, h3⟩, h1.l, h1.c⟩, HB.out.trans ((HK2.out.mono HB.out.size).trans h4)⟩
    have FIN := Lib.hid fin; clear fin
    have b1 := HF2.out.f.cell; have b2 := HF2.out.l.cell; have b3 := HF2.out.f.frozen; have b4 := HF2.out.l.frozen
    have he1 : ∀ (w : World), (binOp .eql 130 (.slice none 0 0) (.slice none 0 0)).run Try.prog w = .ok (.bool true) w := fun _ => rfl
    have he2 : ∀ (a : Addr) (n cap : Nat) (w : World), (binOp .eql 130 (.slice (some a) n cap) (.slice none 0 0)).run Try.prog w = .ok (.bool false) w := fun _ _ _ _ => rfl
    by_cases hL : L = []
    · have hv0 := HNIL.out hL
      subst hL
      subst hv0
      have HS1 : Hid (fndT c m (t + 1) = ([t], y)) := Lib.hid (by rw [HST.out, if_pos (.inl rfl)])
      obtain ⟨f2, q1, q2⟩ := HF2.out.clear y (by omega) (by omega) (by omega) (by omega) (by omega)
      generalize hU3 : (U2.setCell ⟨w.heap.size + 1, 0, none⟩ (.slice none 0 0)).setCell ⟨w.heap.size + 1 + 1, 0, none⟩ (.int .i64 y) = U3 at *
      obtain ⟨g, cap, w1, hrun, r1, r2, f3, q3, q4⟩ := f2.app t (Nat.le_trans hUs q1.size) (by omega) (by omega) (by omega) (by simp)
      have G1 := Lib.hid f2; have G2 := Lib.hid q1; have G3 := Lib.hid q2; have G4 := Lib.hid f3; have G5 := Lib.hid q3; have G6 := Lib.hid q4; have G7 := Lib.hid hU3
      have c1 := f2.f.cell; have c2 := f2.l.cell
      clear f2 q1 q2 f3 q3 q4
      gi_wp2_with (first | (rw [G7.out]) | (refine listS_append_run rfl (.tmp 28) (.tmp 30) 130 rfl (.slice none 0 0) (.slice (some ⟨U3.heap.size, 0, none⟩) 1 1) 130 (by rfl) (by rfl) (by rfl) (.slice (some ⟨g, 0, none⟩) (([] : List Nat).length + 1) cap) w1 hrun ?_))
      exact ⟨((KeepsOthers.of_grownBy (keep_grown HK2.out none) (fun j o e => by cases e)).trans (G2.out.trans G5.out)).from _, trivial, FIN.out _ _ _ _ G4.out HS1.out (fun e => by cases e) (G3.out.trans G6.out)⟩
    obtain ⟨z, L2, rfl⟩ : ∃ z L2, L = z :: L2 := by
      cases L with
      | nil => exact absurd rfl hL
      | cons a b => exact ⟨a, b, rfl⟩
    obtain ⟨g0, cap0, hv0⟩ := ownsRow_succ (k := L2.length) (by have h := HF2.out.r; rw [List.length_cons] at h; exact h)
    subst hv0
    by_cases hlt : y < e0
    · have HS1 : Hid (fndT c m (t + 1) = ([t], y)) := Lib.hid (by rw [HST.out, if_pos (.inr hlt)])
      obtain ⟨f2, q1, q2⟩ := HF2.out.clear y (by omega) (by omega) (by omega) (by omega) (by omega)
      generalize hU3 : (U2.setCell ⟨w.heap.size + 1, 0, none⟩ (.slice none 0 0)).setCell ⟨w.heap.size + 1 + 1, 0, none⟩ (.int .i64 y) = U3 at *
      obtain ⟨g, cap, w1, hrun, r1, r2, f3, q3, q4⟩ := f2.app t (Nat.le_trans hUs q1.size) (by omega) (by omega) (by omega) (by simp)
      have G1 := Lib.hid f2; have G2 := Lib.hid q1; have G3 := Lib.hid q2; have G4 := Lib.hid f3; have G5 := Lib.hid q3; have G6 := Lib.hid q4; have G7 := Lib.hid hU3
      have c1 := f2.f.cell; have c2 := f2.l.cell
      clear f2 q1 q2 f3 q3 q4
      gi_wp2_with (first | (rw [G7.out]) | (refine listS_append_run rfl (.tmp 28) (.tmp 30) 130 rfl (.slice none 0 0) (.slice (some ⟨U3.heap.size, 0, none⟩) 1 1) 130 (by rfl) (by rfl) (by rfl) (.slice (some ⟨g, 0, none⟩) (([] : List Nat).length + 1) cap) w1 hrun ?_))
      exact ⟨((KeepsOthers.of_grownBy (keep_grown HK2.out none) (fun j o e => by cases e)).trans (G2.out.trans G5.out)).from _, trivial, FIN.out _ _ _ _ G4.out HS1.out (fun e => by cases e) (G3.out.trans G6.out)⟩
    by_cases heq : y = e0
    · have HS1 : Hid (fndT c m (t + 1) = ((z :: L2) ++ [t], e0)) := Lib.hid (by rw [HST.out, if_neg (by simp; omega), if_pos heq])
      obtain ⟨g, cap, w1, hrun, r1, r2, f3, q3, q4⟩ := HF2.out.app t hUs (by omega) (by omega) (by omega) (by omega)
      have G4 := Lib.hid f3; have G5 := Lib.hid q3; have G6 := Lib.hid q4
      clear f3 q3 q4
      subst heq
      gi_wp2_with (refine listS_append_run rfl (.tmp 28) (.tmp 30) 130 rfl (.slice (some ⟨g0, 0, none⟩) (L2.length + 1) cap0) (.slice (some ⟨U2.heap.size, 0, none⟩) 1 1) 130 (by rfl) (by rfl) (by rfl) (.slice (some ⟨g, 0, none⟩) ((z :: L2).length + 1) cap) w1 hrun ?_)
      exact ⟨((KeepsOthers.of_grownBy (keep_grown HK2.out none) (fun j o e => by cases e)).trans G5.out).from _, trivial, FIN.out _ _ _ _ G4.out HS1.out (fun e => by simp at e) G6.out⟩
    · have HS1 : Hid (fndT c m (t + 1) = (z :: L2, e0)) := Lib.hid (by rw [HST.out, if_neg (by simp; omega), if_neg heq, HPR.out])
      gi_wp2
      exact ⟨(KeepsOthers.of_grownBy (keep_grown HK2.out none) (fun j o e => by cases e)).from _, trivial, FIN.out _ _ _ _ HF2.out HS1.out (fun e => by cases e) (Below.refl _ _)⟩
  case done =>
    rintro D W hD ⟨⟨⟨v, hv, hrow, hnil⟩, hlb, hcb⟩, hB⟩ hK
    have b1 := hv.cell; have b2 := hlb.cell
    gi_wp2
    refine wpIn_wide.2 ?_
    go_quiet (fail)
    have hKq : (W.drewN nq).heap[D]? = some (.deferred (some [])) := hK
    have hrow1 := hrow.kept (row := none) (keep_grown (below_drewN (Below.refl W.heap.size W) nq) none) (by
      rcases hrow.2 with ⟨rfl, _⟩ | ⟨g, cap, cur, rfl, _⟩
      · exact .inl rfl
      · exact .inr (by simp [Value.ownBlock]))
    have hB1 := below_drewN hB nq
    have hWq : W.heap.size ≤ (W.drewN nq).heap.size := (below_drewN (Below.refl W.heap.size W) nq).size
    have hl := fnd_len c m (m + 1)
    have hws : w.heap.size ≤ D := Nat.le_trans (by simp; omega) hD
    generalize W.drewN nq = W2 at *
    gi_wp2
    refine ⟨by simp, .inl ⟨_, _, rfl, run_takeDeferred hKq, ?_⟩⟩
    have hrow2 := fun o' => ownsRow_putObj hrow1 o' hKq rfl
    have hB2 := fun o' => hB1.trans (belowK_b (w := w) (Nat.le_refl _) W2 D _ o' hws hKq rfl rfl)
    rcases hrow1.2 with ⟨h0, h1⟩ | ⟨gg, cp, cur, h0, _⟩
    · subst h0
      exact ⟨_, results_tmp2 rfl _ _ _, none, 0, by rw [h1]; rfl, ⟨by have h := hrow2 (.deferred none); rw [h1] at h ⊢; exact h, by omega⟩, hB2 _⟩
    · subst h0
      exact ⟨_, results_tmp2 rfl _ _ _, some ⟨gg, 0, none⟩, cp, rfl, ⟨hrow2 _, by omega⟩, hB2 _⟩
end Go.Proofs.Ytaockgegghmphab
