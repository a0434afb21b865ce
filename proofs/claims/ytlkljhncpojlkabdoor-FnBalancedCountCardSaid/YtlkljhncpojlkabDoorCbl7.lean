/- Balanced words, letter by letter: how many there are, by counting (pure). -/
import Derived.Test.YtlkljhncpojlkabDoorHgt7
namespace Go.Proofs.YtlkljhncpojlkabDoor
open Go.ChangeShapes Go.WideShapes Go.ChangeAt Go.RowKit Go.Deep
set_option linter.unusedVariables false
/-! ### states: the heights, and of each length the least and the greatest growth -/
structure St7 where
  hs : List Nat
  ws : List (Nat × Nat)
def zw7 : List (Nat × Nat) → List Nat → List (Nat × Nat)
  | _, [] => []
  | [], d :: _ => [(d, d)]
  | p :: r, d :: ds => (bif Nat.ble p.1 d then p.1 else d, bif Nat.ble d p.2 then p.2 else d) :: zw7 r ds
def hd7 : List Nat → Nat | [] => 0 | a :: _ => a
def stp7 (x : Nat) (s : St7) : St7 := ⟨(x + hd7 s.hs) :: s.hs, zw7 s.ws (s.hs.map (fun h => x + hd7 s.hs - h))⟩
def okS7 (s : St7) : Bool := s.ws.all fun p => Nat.ble p.2 (p.1 + 1)
def nxt7 : List St7 → List St7
  | [] => []
  | s :: r => let t := nxt7 r; bif okS7 (stp7 0 s) then (stp7 0 s) :: (bif okS7 (stp7 1 s) then stp7 1 s :: t else t) else (bif okS7 (stp7 1 s) then stp7 1 s :: t else t)
theorem zw7_len : ∀ (ws : List (Nat × Nat)) (ds : List Nat), ds.length = ws.length + 1 → (zw7 ws ds).length = ws.length + 1 := by
  intro ws
  induction ws with
  | nil => intro ds h; match ds, h with | [d], _ => rfl
  | cons p r ih =>
    intro ds h
    match ds, h with
    | d :: ds, h => simp only [zw7, List.length_cons] at h ⊢; rw [ih ds (by omega)]
theorem zw7_get : ∀ (ws : List (Nat × Nat)) (ds : List Nat), ds.length = ws.length + 1 → ∀ k, k < ws.length →
    (zw7 ws ds).getD k (0, 0) = (min (ws.getD k (0, 0)).1 (ds.getD k 0), max (ws.getD k (0, 0)).2 (ds.getD k 0)) := by
  intro ws
  induction ws with
  | nil => intro ds h k hk; simp at hk
  | cons p r ih =>
    intro ds h k hk
    match ds, h with
    | d :: ds, h =>
      simp only [List.length_cons] at h hk
      match k, hk with
      | 0, _ =>
        simp only [zw7, List.getD_cons_zero]
        refine Prod.ext ?_ ?_
        · show (bif Nat.ble p.1 d then p.1 else d) = _
          cases h : Nat.ble p.1 d
          · have : ¬ p.1 ≤ d := fun q => by rw [Nat.ble_eq_true_of_le q] at h; cases h
            simp; omega
          · have := Nat.le_of_ble_eq_true h
            simp; omega
        · show (bif Nat.ble d p.2 then p.2 else d) = _
          cases h : Nat.ble d p.2
          · have : ¬ d ≤ p.2 := fun q => by rw [Nat.ble_eq_true_of_le q] at h; cases h
            simp; omega
          · have := Nat.le_of_ble_eq_true h
            simp; omega
      | k + 1, hk => simp only [zw7, List.getD_cons_succ]; exact ih ds (by omega) k (by omega)
theorem zw7_last : ∀ (ws : List (Nat × Nat)) (ds : List Nat), ds.length = ws.length + 1 → (zw7 ws ds).getD ws.length (0, 0) = (ds.getD ws.length 0, ds.getD ws.length 0) := by
  intro ws
  induction ws with
  | nil => intro ds h; match ds, h with | [d], _ => rfl
  | cons p r ih =>
    intro ds h
    match ds, h with
    | d :: ds, h => simp only [List.length_cons] at h; simp only [zw7, List.length_cons, List.getD_cons_succ]; exact ih ds (by omega)
structure InvS7 (H : Nat → Nat) (n : Nat) (s : St7) : Prop where
  hlen : s.hs.length = n + 1
  hget : ∀ i, i ≤ n → s.hs.getD i 0 = H (n - i)
  wlen : s.ws.length = n
  wget : ∀ k, k < n → (∀ i, i + (k + 1) ≤ n → (s.ws.getD k (0, 0)).1 ≤ H (i + (k + 1)) - H i ∧ H (i + (k + 1)) - H i ≤ (s.ws.getD k (0, 0)).2) ∧
    (∃ i, i + (k + 1) ≤ n ∧ H (i + (k + 1)) - H i = (s.ws.getD k (0, 0)).1) ∧ (∃ i, i + (k + 1) ≤ n ∧ H (i + (k + 1)) - H i = (s.ws.getD k (0, 0)).2)
theorem InvS7.step {H H' : Nat → Nat} {n x : Nat} {s : St7} (h : InvS7 H n s) (he : ∀ i, i ≤ n → H' i = H i) (hn : H' (n + 1) = H n + x) : InvS7 H' (n + 1) (stp7 x s) := by
  have h0 : hd7 s.hs = H n := by
    have := h.hget 0 (Nat.zero_le _)
    have hl := h.hlen
    cases e : s.hs with
    | nil => rw [e] at hl; simp at hl
    | cons a r => rw [e] at this; simpa [hd7] using this
  have hdl : (s.hs.map (fun q => x + hd7 s.hs - q)).length = s.ws.length + 1 := by rw [List.length_map, h.hlen, h.wlen]
  have hdg : ∀ k, k ≤ n → (s.hs.map (fun q => x + hd7 s.hs - q)).getD k 0 = H' (n - k + (k + 1)) - H' (n - k) := by
    intro k hk
    have h1 := h.hget k hk
    have hl : k < s.hs.length := by rw [h.hlen]; omega
    rw [show n - k + (k + 1) = n + 1 by omega, hn, he (n - k) (by omega), ← h1, h0]
    simp only [List.getD_eq_getElem?_getD, List.getElem?_map, List.getElem?_eq_getElem hl, Option.map_some, Option.getD_some]
    omega
  refine ⟨by simp [stp7, h.hlen], ?_, ?_, ?_⟩
  · intro i hi
    match i with
    | 0 => simp only [stp7, List.getD_cons_zero, Nat.sub_zero]; rw [h0, hn]; omega
    | i + 1 => simp only [stp7, List.getD_cons_succ]; rw [h.hget i (by omega), he _ (by omega)]; congr 1; omega
  · show (zw7 _ _).length = _
    rw [zw7_len _ _ hdl, h.wlen]
  · intro k hk
    by_cases hkn : k < n
    · have hz := zw7_get s.ws _ hdl k (by rw [h.wlen]; exact hkn)
      have hd := hdg k (by omega)
      obtain ⟨g1, ⟨i1, a1, b1⟩, ⟨i2, a2, b2⟩⟩ := h.wget k hkn
      show (∀ i, i + (k + 1) ≤ n + 1 → ((zw7 s.ws _).getD k (0, 0)).1 ≤ _ ∧ _ ≤ ((zw7 s.ws _).getD k (0, 0)).2) ∧ (∃ i, _ ∧ _ = ((zw7 s.ws _).getD k (0, 0)).1) ∧ (∃ i, _ ∧ _ = ((zw7 s.ws _).getD k (0, 0)).2)
      rw [hz, hd]
      generalize s.ws.getD k (0, 0) = p at *
      refine ⟨fun i hi => ?_, ?_, ?_⟩
      · by_cases q : i = n - k
        · subst q
          have : min p.1 (H' (n - k + (k + 1)) - H' (n - k)) ≤ H' (n - k + (k + 1)) - H' (n - k) := Nat.min_le_right _ _
          have : H' (n - k + (k + 1)) - H' (n - k) ≤ max p.2 (H' (n - k + (k + 1)) - H' (n - k)) := Nat.le_max_right _ _
          exact ⟨by assumption, by assumption⟩
        · have g := g1 i (by omega)
          rw [he i (by omega), he (i + (k + 1)) (by omega)]
          exact ⟨Nat.le_trans (Nat.min_le_left _ _) g.1, Nat.le_trans g.2 (Nat.le_max_left _ _)⟩
      · by_cases q : p.1 ≤ H' (n - k + (k + 1)) - H' (n - k)
        · exact ⟨i1, by omega, by rw [he i1 (by omega), he (i1 + (k + 1)) (by omega), b1, Nat.min_eq_left q]⟩
        · exact ⟨n - k, by omega, by rw [Nat.min_eq_right (by omega)]⟩
      · by_cases q : H' (n - k + (k + 1)) - H' (n - k) ≤ p.2
        · exact ⟨i2, by omega, by rw [he i2 (by omega), he (i2 + (k + 1)) (by omega), b2, Nat.max_eq_left q]⟩
        · exact ⟨n - k, by omega, by rw [Nat.max_eq_right (by omega)]⟩
    · have hke : k = n := by omega
      subst hke
      have hz := zw7_last s.ws _ hdl
      have hd := hdg k (Nat.le_refl _)
      rw [h.wlen] at hz
      show (∀ i, i + (k + 1) ≤ k + 1 → ((zw7 s.ws _).getD k (0, 0)).1 ≤ _ ∧ _ ≤ ((zw7 s.ws _).getD k (0, 0)).2) ∧ (∃ i, _ ∧ _ = ((zw7 s.ws _).getD k (0, 0)).1) ∧ (∃ i, _ ∧ _ = ((zw7 s.ws _).getD k (0, 0)).2)
      rw [hz, hd, Nat.sub_self]
      refine ⟨fun i hi => ?_, ⟨0, by omega, rfl⟩, ⟨0, by omega, rfl⟩⟩
      obtain rfl : i = 0 := by omega
      exact ⟨Nat.le_refl _, Nat.le_refl _⟩
theorem InvS7.ok {H : Nat → Nat} {n : Nat} {s : St7} (h : InvS7 H n s) : okS7 s = true ↔ ∀ k, k < n → ∀ i j, i + (k + 1) ≤ n → j + (k + 1) ≤ n → H (i + (k + 1)) - H i ≤ H (j + (k + 1)) - H j + 1 := by
  unfold okS7
  rw [List.all_eq_true]
  constructor
  · intro hh k hk i j hi hj
    have hl : k < s.ws.length := by rw [h.wlen]; exact hk
    have hm := Nat.le_of_ble_eq_true (hh s.ws[k] (List.getElem_mem hl))
    have g := (h.wget k hk).1
    have e : s.ws.getD k (0, 0) = s.ws[k] := by simp [List.getD_eq_getElem?_getD, hl]
    rw [e] at g
    have := g i hi; have := g j hj
    omega
  · intro hh p hp
    obtain ⟨k, hl, rfl⟩ := List.mem_iff_getElem.1 hp
    have hk : k < n := by rw [h.wlen] at hl; exact hl
    obtain ⟨_, ⟨i1, a1, b1⟩, ⟨i2, a2, b2⟩⟩ := h.wget k hk
    have e : s.ws.getD k (0, 0) = s.ws[k] := by simp [List.getD_eq_getElem?_getD, hl]
    rw [e] at b1 b2
    have := hh k hk i2 i1 a2 a1
    exact Nat.ble_eq_true_of_le (by omega)
theorem hN7_mono (zs : List Int) (i : Nat) : ∀ d, hN7 zs i ≤ hN7 zs (i + d) := by
  intro d
  induction d with
  | zero => exact Nat.le_refl _
  | succ d ih =>
    by_cases h : i + d < zs.length
    · rw [show i + (d + 1) = (i + d) + 1 from rfl, hN7_succ zs (i + d) h]; omega
    · have e : hN7 zs (i + (d + 1)) = hN7 zs (i + d) := by unfold hN7; rw [List.take_of_length_le (by omega), List.take_of_length_le (by omega)]
      omega
theorem balT_ok (zs : List Int) (ha : Ab7 zs) (s : St7) (h : InvS7 (hN7 zs) zs.length s) : balT (strOfNums zs) = okS7 s := by
  rw [Bool.eq_iff_iff, h.ok]
  unfold balT
  rw [List.all_eq_true, strOfNums_size]
  simp only [List.mem_range]
  have hd : ∀ n i, i + n ≤ zs.length → dif7 (strOfNums zs) n i = ((hN7 zs (i + n) - hN7 zs i : Nat) : Int) := by
    intro n i hi
    unfold dif7
    rw [hgt_hN zs ha _ hi, hgt_hN zs ha _ (by omega)]
    have := hN7_mono zs i n
    omega
  constructor
  · intro hh k hk i j hi hj
    have := (balN_iff.1 (hh k hk)) i j (by rw [strOfNums_size]; omega) (by rw [strOfNums_size]; omega)
    rw [hd _ _ hi, hd _ _ hj] at this
    omega
  · intro hh k hk
    rw [balN_iff]
    intro i j hi hj
    rw [strOfNums_size] at hi hj
    have := hh k hk i j (by omega) (by omega)
    rw [hd _ _ (by omega), hd _ _ (by omega)]
    omega
/-- A word of bytes, and a state that fits. -/
def Fit7 (zs : List Int) (s : St7) : Prop := Ab7 zs ∧ InvS7 (hN7 zs) zs.length s
theorem Fit7.nil : Fit7 [] ⟨[0], []⟩ := by
  refine ⟨by intro z hz; simp at hz, ⟨rfl, ?_, rfl, ?_⟩⟩
  · intro i hi; have : i = 0 := by simpa using hi
    subst this; rfl
  · intro k hk; simp at hk
theorem Fit7.app {zs : List Int} {s : St7} (h : Fit7 zs s) (x : Nat) (hx : x = 0 ∨ x = 1) : Fit7 (zs ++ [97 + (x : Int)]) (stp7 x s) := by
  refine ⟨?_, ?_⟩
  · intro z hz
    rcases List.mem_append.1 hz with q | q
    · exact h.1 z q
    · have : z = 97 + (x : Int) := by simpa using q
      omega
  · have e : (zs ++ [97 + (x : Int)]).length = zs.length + 1 := by simp
    rw [e]
    refine h.2.step (fun i hi => hN7_app zs _ i hi) ?_
    have hl : zs.length < (zs ++ [97 + (x : Int)]).length := by simp
    rw [hN7_succ _ _ hl, hN7_app zs _ _ (Nat.le_refl _)]
    simp
    omega
theorem Fit7.bal {zs : List Int} {s : St7} (h : Fit7 zs s) (hl : zs.length ≤ 120) : balB (strOfNums zs) = okS7 s := by
  unfold balB; rw [wdB_ab zs h.1 hl, Bool.true_and, balT_ok zs h.1 s h.2]
/-! ### all balanced words, letter by letter -/
def grow7 (w : List Int) : List (List Int) := [w ++ [97], w ++ [98]].filter fun v => balB (strOfNums v)
def lvlW : Nat → List (List Int) | 0 => [[]] | n + 1 => (lvlW n).flatMap grow7
def lvlS : Nat → List St7 | 0 => [⟨[0], []⟩] | n + 1 => nxt7 (lvlS n)
def Rl7 (n : Nat) : List (List Int) → List St7 → Prop
  | [], [] => True
  | w :: ws, s :: ss => (w.length = n ∧ Fit7 w s) ∧ Rl7 n ws ss
  | _, _ => False
theorem Rl7.len {n : Nat} : ∀ {ws : List (List Int)} {ss : List St7}, Rl7 n ws ss → ws.length = ss.length := by
  intro ws
  induction ws with
  | nil => intro ss h; cases ss with
    | nil => rfl
    | cons _ _ => exact h.elim
  | cons w ws ih => intro ss h; cases ss with
    | nil => exact h.elim
    | cons s ss => simp [ih h.2]
theorem Rl7.next {n : Nat} (hn : n < 120) : ∀ {ws : List (List Int)} {ss : List St7}, Rl7 n ws ss → Rl7 (n + 1) (ws.flatMap grow7) (nxt7 ss) := by
  intro ws
  induction ws with
  | nil => intro ss h; cases ss with
    | nil => trivial
    | cons _ _ => exact h.elim
  | cons w ws ih => intro ss h; cases ss with
    | nil => exact h.elim
    | cons s ss =>
      obtain ⟨⟨hl, hf⟩, hr⟩ := h
      have h0 := hf.app 0 (.inl rfl)
      have h1 := hf.app 1 (.inr rfl)
      have e0 : balB (strOfNums (w ++ [97])) = okS7 (stp7 0 s) := h0.bal (by simp; omega)
      have e1 : balB (strOfNums (w ++ [98])) = okS7 (stp7 1 s) := h1.bal (by simp; omega)
      have hr' := ih hr
      have hg : grow7 w = (if okS7 (stp7 0 s) = true then (w ++ [97]) :: (if okS7 (stp7 1 s) = true then [w ++ [98]] else []) else if okS7 (stp7 1 s) = true then [w ++ [98]] else []) := by
        unfold grow7; simp only [List.filter_cons, List.filter_nil, e0, e1]
      show Rl7 (n + 1) (grow7 w ++ ws.flatMap grow7) _
      unfold nxt7
      rw [hg]
      generalize ws.flatMap grow7 = T at *
      have l0 : (w ++ [97]).length = n + 1 := by simp [hl]
      have l1 : (w ++ [98]).length = n + 1 := by simp [hl]
      cases okS7 (stp7 0 s) <;> cases okS7 (stp7 1 s)
      · exact hr'
      · exact ⟨⟨l1, h1⟩, hr'⟩
      · exact ⟨⟨l0, h0⟩, hr'⟩
      · exact ⟨⟨l0, h0⟩, ⟨l1, h1⟩, hr'⟩
theorem lvl_rl : ∀ n, n ≤ 120 → Rl7 n (lvlW n) (lvlS n) := by
  intro n
  induction n with
  | zero => intro _; exact ⟨⟨rfl, Fit7.nil⟩, trivial⟩
  | succ n ih => intro h; exact (ih (by omega)).next (by omega)
theorem lvlW_len {n : Nat} : ∀ v ∈ lvlW n, v.length = n := by
  induction n with
  | zero => intro v hv; have : v = [] := by simpa [lvlW] using hv
            rw [this]; rfl
  | succ n ih =>
    intro v hv
    obtain ⟨w, hw, hg⟩ := List.mem_flatMap.1 hv
    have hl := ih w hw
    have hm := (List.mem_filter.1 hg).1
    rcases List.mem_cons.1 hm with q | q
    · rw [q]; simp [hl]
    · have : v = w ++ [98] := by simpa using q
      rw [this]; simp [hl]
/-! ### how many there are -/
def prmN7 (i : Nat) : Nat → Nat
  | 0 => 0
  | k + 1 => prmN7 i k + (bif Nat.beq (Nat.gcd (k + 1) i) 1 then 1 else 0)
def cntN7 (n : Nat) : Nat → Nat
  | 0 => 1
  | i + 1 => cntN7 n i + (n - (i + 1) + 1) * prmN7 (i + 1) (i + 1)
def chk7 : Nat → List St7 → Nat → Bool
  | 0, _, _ => true
  | f + 1, l, n => Nat.beq l.length (cntN7 n n) && chk7 f (nxt7 l) (n + 1)
theorem chk7_all : ∀ f n, chk7 f (lvlS n) n = true → ∀ m, n ≤ m → m < n + f → (lvlS m).length = cntN7 m m := by
  intro f
  induction f with
  | zero => intro n _ m h1 h2; omega
  | succ f ih =>
    intro n h m h1 h2
    simp only [chk7, Bool.and_eq_true] at h
    by_cases e : m = n
    · subst e; exact Nat.eq_of_beq_eq_true h.1
    · exact ih (n + 1) h.2 m (by omega) (by omega)
set_option maxRecDepth 100000 in
theorem chk7_20 : chk7 21 (lvlS 0) 0 = true := by decide +kernel
theorem lvlW_count {n : Nat} (h : n ≤ 20) : (lvlW n).length = cntN7 n n := by
  rw [(lvl_rl n (by omega)).len]; exact chk7_all 21 0 chk7_20 n (Nat.zero_le _) (by omega)
end Go.Proofs.YtlkljhncpojlkabDoor
