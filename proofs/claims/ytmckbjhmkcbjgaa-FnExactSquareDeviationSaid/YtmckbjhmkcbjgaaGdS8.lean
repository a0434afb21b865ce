/- How far sequences deviate: the model's look. -/
import Derived.Test.YtmckbjhmkcbjgaaGd8
import Derived.BigQuiet
namespace Go.Proofs.Ytmckbjhmkcbjgaa
open Go.ChangeShapes Go.WideShapes Go.ChangeAt Go.RowKit Go.Deep
set_option linter.unusedVariables false
set_option maxHeartbeats 800000 in
theorem l08Most_any (ad : Option Addr) (cap : Nat) (E : List Int) (w : World) (hz : Ints w ad E) (hb : ∀ z ∈ E, -9600 ≤ z ∧ z ≤ 9600) :
    Calls Try.prog 65 #[.slice ad E.length cap] w fun e w' => e = .returned (.int .i64 (gr E)) ∧ Keep w w' := by
  have HB := Lib.hid hb
  clear hb
  have hlen := hz.small
  go_enter Try.func65, Try.ntmps65
  go_wp2
  go_loopw [3, 4] (fun s i wr => ∃ k : Nat, k ≤ E.length ∧ i = .int .i64 k ∧ s = .int .i64 (gr (E.take k)) ∧ Keep w wr) (fun _ i _ => E.length - (intOf i).toNat)
  case atStart => exact ⟨0, Nat.zero_le _, rfl, by simp [gr], Below.refl _ _⟩
  case round =>
    obtain ⟨k, hk, rfl, rfl, hbel⟩ := hrel
    by_cases hlt : k < E.length
    · rcases hz.at_ with h | ⟨b, off, rfl, hb1, hc⟩
      · subst h; simp at hlt
      have hcx : wr.cell? ⟨b, off + k, none⟩ = some (.int .i64 (E.getD k 0)) := by rw [hbel.cell (by exact hb1)]; exact hc k hlt
      have hx := HB.out _ (getD_mem E k hlt)
      have HS : Hid (gr (E.take (k + 1)) = mx (gr (E.take k)) (mx (E.getD k 0) (-E.getD k 0))) := Lib.hid (gr_step E k hlt)
      clear hc
      generalize E.getD k 0 = x at hcx hx HS
      generalize gr (E.take k) = s at HS
      go_wp2
      go_quiet ((go_at_call 64; exact Calls.quiet_of_same ((l00Max_any _ _ _).mono fun _ _ h => ⟨h.1, h.2.symm⟩)))
      go_wp2
      go_roundw
      case rel => exact ⟨k + 1, by omega, by go_num, by rw [HS.out], below_drewN hbel _⟩
      case measure => simp [intOf]; omega
    · have HE := Lib.hid (show k = E.length from by omega)
      go_wp2
      go_ret
      exact ⟨ret_i64 (by rw [HE.out, List.take_length]), hbel⟩
set_option maxHeartbeats 800000 in
theorem l08Squares_any (ad : Option Addr) (cap : Nat) (E : List Int) (w : World) (hz : Ints w ad E) (hl : E.length ≤ 6) (hb : ∀ z ∈ E, -9600 ≤ z ∧ z ≤ 9600) :
    Calls Try.prog 66 #[.slice ad E.length cap] w fun e w' => e = .returned (.int .i64 (sqs E)) ∧ Keep w w' := by
  have HB := Lib.hid hb
  have HQ := Lib.hid (sqs_bd 9600 (by omega) E hb)
  clear hb
  have hlen := hz.small
  go_enter Try.func66, Try.ntmps66
  go_wp2
  go_loopw [3, 4] (fun s i wr => ∃ k : Nat, k ≤ E.length ∧ i = .int .i64 k ∧ s = .int .i64 (sqs (E.take k)) ∧ Keep w wr) (fun _ i _ => E.length - (intOf i).toNat)
  case atStart => exact ⟨0, Nat.zero_le _, rfl, by simp [sqs], Below.refl _ _⟩
  case round =>
    obtain ⟨k, hk, rfl, rfl, hbel⟩ := hrel
    by_cases hlt : k < E.length
    · rcases hz.at_ with h | ⟨b, off, rfl, hb1, hc⟩
      · subst h; simp at hlt
      have hcx : wr.cell? ⟨b, off + k, none⟩ = some (.int .i64 (E.getD k 0)) := by rw [hbel.cell (by exact hb1)]; exact hc k hlt
      have hx := sq_bd8 (HB.out _ (getD_mem E k hlt))
      have hs := HQ.out k (by omega)
      have HS := Lib.hid (sqs_step E k hlt)
      clear hc
      generalize E.getD k 0 = x at hcx hx HS
      generalize sqs (E.take k) = s at HS hs
      have V1 : IntKind.i64.wrap (x * x) = x * x := IntWalk.i64_in _ (by omega)
      have V2 : IntKind.i64.wrap (s + x * x) = s + x * x := IntWalk.i64_in _ (by omega)
      go_wp2
      go_quiet (fail)
      go_wp2
      go_roundw
      case rel => exact ⟨k + 1, by omega, by go_num, by rw [HS.out], below_drewN hbel _⟩
      case measure => simp [intOf]; omega
    · have HE := Lib.hid (show k = E.length from by omega)
      go_wp2
      go_ret
      exact ⟨ret_i64 (by rw [HE.out, List.take_length]), hbel⟩
set_option maxHeartbeats 1600000 in
theorem specGreatestDeviation_any (ad : Option Addr) (cap : Nat) (d : List Int) (bd : Option Addr) (bcap : Nat) (l : List Int) (w : World) (hz : Ints w ad d) (hl : Ints w bd l) :
    Calls Try.prog 35 #[.slice ad d.length cap, .slice bd l.length bcap] w fun e w' => e = .returned (.tuple #[.int .i64 (gdV d l), .bool (seqO d l)]) ∧ Keep w w' := by
  cases hok : okD d
  · have hs : seqO d l = false := by unfold seqO; rw [hok]; rfl
    rw [show gdV d l = 0 from by unfold gdV devV; rw [hs]; rfl, hs]
    go_enter Try.func35, Try.ntmps35
    go_wp2_with (go_at_call 61; refine (l08Is_any _ _ _ _ hz).mono ?_; rw [hok]; rintro e w1 ⟨rfl, k1⟩)
    go_ret2
    exact ⟨rfl, k1⟩
  have h6 := (okD_parts hok).2.1
  cases hq : seqO d l
  · have hb : seqB d l = false := by unfold seqO at hq; rw [hok] at hq; simpa using hq
    rw [show gdV d l = 0 from by unfold gdV devV; rw [hq]; rfl]
    go_enter Try.func35, Try.ntmps35
    go_wp2_with (first | (go_at_call 61; refine (l08Is_any _ _ _ _ hz).mono ?_; rw [hok]; rintro e w1 ⟨rfl, k1⟩) | (go_at_call 62; refine (l08Sequence_any _ _ _ _ _ _ _ (hz.keep k1 (Nat.le_refl _)) (hl.keep k1 (Nat.le_refl _)) h6).mono ?_; rw [hb]; rintro e w2 ⟨rfl, k2⟩))
    go_ret2
    exact ⟨rfl, Keep.next k1 k2⟩
  · have hb : seqB d l = true := by unfold seqO at hq; rw [hok] at hq; simpa using hq
    have hL := (seqO_len hq).2
    have HA := Lib.hid (fun W (k : Keep w W) => l08All_any ad cap d bd bcap l W (hz.keep k (Nat.le_refl _)) (hl.keep k (Nat.le_refl _)) hq)
    rw [show gdV d l = foldP gr mx (devs d l l.length) from by unfold gdV devV; rw [hq]; rfl]
    have HROW := Lib.hid (show ∀ k, k < (devs d l l.length).length → ((devs d l l.length).getD k []).length ≤ 6 ∧ ∀ z ∈ (devs d l l.length).getD k [], -9600 ≤ z ∧ z ≤ 9600 from fun k hk => devs_row hq (by rw [devs_len] at hk; exact hk))
    have HDL := Lib.hid (show (devs d l l.length).length ≤ 240 from by rw [devs_len]; exact hL)
    have HFS := Lib.hid (foldP_step gr mx (devs d l l.length))
    have HFB := Lib.hid (show ∀ k, k ≤ (devs d l l.length).length → 0 ≤ foldP gr mx ((devs d l l.length).take k) ∧ foldP gr mx ((devs d l l.length).take k) ≤ 1000000000000 from fun k hk => by
      rw [devs_len] at hk
      first
        | (have := foldGr_bd hq k hk; omega)
        | (have h := foldSq_bd hq k hk; exact ⟨h.1, Int.le_trans h.2 (by omega)⟩))
    have HPB := Lib.hid (show ∀ E : List Int, E.length ≤ 6 → (∀ z ∈ E, -9600 ≤ z ∧ z ≤ 9600) → 0 ≤ gr E ∧ gr E ≤ 552960000 from fun E h1 h2 => by
      first
        | (have := gr_full 9600 (by omega) E h2; omega)
        | (have := sqs_full E h1 h2; omega))
    generalize devs d l l.length = E at *
    go_enter Try.func35, Try.ntmps35
    go_wp2_with (first | (go_at_call 61; refine (l08Is_any _ _ _ _ hz).mono ?_; rw [hok]; rintro e w1 ⟨rfl, k1⟩) | (go_at_call 62; refine (l08Sequence_any _ _ _ _ _ _ _ (hz.keep k1 (Nat.le_refl _)) (hl.keep k1 (Nat.le_refl _)) h6).mono ?_; rw [hb]; rintro e w2 ⟨rfl, k2⟩))
    refine (HA.out _ (Keep.next k1 k2)).mono ?_
    rintro e w3 ⟨rd, rc, rA, rC, rfl, o3, k3⟩
    have I3 := Lib.hid o3.ints
    have K3 : Hid (Keep w w3) := Lib.hid (Keep.next (Keep.next k1 k2) k3)
    clear o3 k3 k1 k2
    have hEl := HDL.out
    have hEs := I3.out.small
    go_wp2
    go_loopw [7, 8] (fun v i wr => ∃ k : Nat, k ≤ E.length ∧ i = .int .i64 k ∧ v = .int .i64 (foldP gr mx (E.take k)) ∧ Hid (Keep w3 wr)) (fun _ i _ => E.length - (intOf i).toNat)
    case atStart => exact ⟨0, Nat.zero_le _, rfl, rfl, Lib.hid (Below.refl _ _)⟩
    case round =>
      obtain ⟨k, hk, rfl, rfl, HK⟩ := hrel
      by_cases hlt : k < E.length
      · rcases (I3.out.keep HK.out (Nat.le_refl _)).at_ with h | ⟨b, off, rfl, hb1, hc⟩
        · subst h; simp at hlt
        obtain ⟨p, c, hcx, hpc, hin⟩ := hc k hlt
        have hrow := HROW.out k hlt
        have hfb := HFB.out k (by omega)
        have HS := Lib.hid (HFS.out k hlt)
        have HIN := Lib.hid hin
        clear hc hin
        generalize E.getD k [] = z at hcx hpc hrow HS HIN
        have hpb := HPB.out z hrow.1 hrow.2
        have HM : Hid (∀ W, Keep wr W → Calls Try.prog 65 #[.slice p z.length c] W fun e w' => e = .returned (.int .i64 (gr z)) ∧ Keep W w') := Lib.hid (fun W kk => by
          first
            | exact l08Most_any p c z W (HIN.out.keep kk (Nat.le_refl _)) hrow.2
            | exact l08Squares_any p c z W (HIN.out.keep kk (Nat.le_refl _)) hrow.1 hrow.2)
        generalize foldP gr mx (E.take k) = m at *
        generalize gr z = q at *
        have V1 : IntKind.i64.wrap (m + q) = m + q := IntWalk.i64_in _ (by omega)
        go_wp2_with (first | (go_at_call 65; refine (HM.out _ (by go_grown)).mono ?_; rintro e w7 ⟨rfl, k7⟩) | (go_at_call 64; refine (l00Max_any _ _ _).mono ?_; rintro e w8 ⟨rfl, rfl⟩))
        go_roundw
        case rel => exact ⟨k + 1, by omega, by go_num, by rw [HS.out], Lib.hid (HK.out.next (Keep.next (by go_grown) k7))⟩
        case measure => simp [intOf]; omega
      · have he := Lib.hid (show k = E.length by omega)
        go_wp2
        go_ret2
        have e := he.out
        subst e
        exact ⟨congrArg (fun x => Ending.returned (Value.tuple #[.int .i64 (foldP gr mx x), .bool true])) List.take_length, K3.out.next HK.out⟩
set_option maxHeartbeats 1600000 in
theorem specSquareDeviation_any (ad : Option Addr) (cap : Nat) (d : List Int) (bd : Option Addr) (bcap : Nat) (l : List Int) (w : World) (hz : Ints w ad d) (hl : Ints w bd l) :
    Calls Try.prog 36 #[.slice ad d.length cap, .slice bd l.length bcap] w fun e w' => e = .returned (.tuple #[.int .i64 (sdV d l), .bool (seqO d l)]) ∧ Keep w w' := by
  cases hok : okD d
  · have hs : seqO d l = false := by unfold seqO; rw [hok]; rfl
    rw [show sdV d l = 0 from by unfold sdV devV; rw [hs]; rfl, hs]
    go_enter Try.func36, Try.ntmps36
    go_wp2_with (go_at_call 61; refine (l08Is_any _ _ _ _ hz).mono ?_; rw [hok]; rintro e w1 ⟨rfl, k1⟩)
    go_ret2
    exact ⟨rfl, k1⟩
  have h6 := (okD_parts hok).2.1
  cases hq : seqO d l
  · have hb : seqB d l = false := by unfold seqO at hq; rw [hok] at hq; simpa using hq
    rw [show sdV d l = 0 from by unfold sdV devV; rw [hq]; rfl]
    go_enter Try.func36, Try.ntmps36
    go_wp2_with (first | (go_at_call 61; refine (l08Is_any _ _ _ _ hz).mono ?_; rw [hok]; rintro e w1 ⟨rfl, k1⟩) | (go_at_call 62; refine (l08Sequence_any _ _ _ _ _ _ _ (hz.keep k1 (Nat.le_refl _)) (hl.keep k1 (Nat.le_refl _)) h6).mono ?_; rw [hb]; rintro e w2 ⟨rfl, k2⟩))
    go_ret2
    exact ⟨rfl, Keep.next k1 k2⟩
  · have hb : seqB d l = true := by unfold seqO at hq; rw [hok] at hq; simpa using hq
    have hL := (seqO_len hq).2
    have HA := Lib.hid (fun W (k : Keep w W) => l08All_any ad cap d bd bcap l W (hz.keep k (Nat.le_refl _)) (hl.keep k (Nat.le_refl _)) hq)
    rw [show sdV d l = foldP sqs (·+·) (devs d l l.length) from by unfold sdV devV; rw [hq]; rfl]
    have HROW := Lib.hid (show ∀ k, k < (devs d l l.length).length → ((devs d l l.length).getD k []).length ≤ 6 ∧ ∀ z ∈ (devs d l l.length).getD k [], -9600 ≤ z ∧ z ≤ 9600 from fun k hk => devs_row hq (by rw [devs_len] at hk; exact hk))
    have HDL := Lib.hid (show (devs d l l.length).length ≤ 240 from by rw [devs_len]; exact hL)
    have HFS := Lib.hid (foldP_step sqs (·+·) (devs d l l.length))
    have HFB := Lib.hid (show ∀ k, k ≤ (devs d l l.length).length → 0 ≤ foldP sqs (·+·) ((devs d l l.length).take k) ∧ foldP sqs (·+·) ((devs d l l.length).take k) ≤ 1000000000000 from fun k hk => by
      rw [devs_len] at hk
      first
        | (have := foldGr_bd hq k hk; omega)
        | (have h := foldSq_bd hq k hk; exact ⟨h.1, Int.le_trans h.2 (by omega)⟩))
    have HPB := Lib.hid (show ∀ E : List Int, E.length ≤ 6 → (∀ z ∈ E, -9600 ≤ z ∧ z ≤ 9600) → 0 ≤ sqs E ∧ sqs E ≤ 552960000 from fun E h1 h2 => by
      first
        | (have := gr_full 9600 (by omega) E h2; omega)
        | (have := sqs_full E h1 h2; omega))
    generalize devs d l l.length = E at *
    go_enter Try.func36, Try.ntmps36
    go_wp2_with (first | (go_at_call 61; refine (l08Is_any _ _ _ _ hz).mono ?_; rw [hok]; rintro e w1 ⟨rfl, k1⟩) | (go_at_call 62; refine (l08Sequence_any _ _ _ _ _ _ _ (hz.keep k1 (Nat.le_refl _)) (hl.keep k1 (Nat.le_refl _)) h6).mono ?_; rw [hb]; rintro e w2 ⟨rfl, k2⟩))
    refine (HA.out _ (Keep.next k1 k2)).mono ?_
    rintro e w3 ⟨rd, rc, rA, rC, rfl, o3, k3⟩
    have I3 := Lib.hid o3.ints
    have K3 : Hid (Keep w w3) := Lib.hid (Keep.next (Keep.next k1 k2) k3)
    clear o3 k3 k1 k2
    have hEl := HDL.out
    have hEs := I3.out.small
    go_wp2
    go_loopw [7, 8] (fun v i wr => ∃ k : Nat, k ≤ E.length ∧ i = .int .i64 k ∧ v = .int .i64 (foldP sqs (·+·) (E.take k)) ∧ Hid (Keep w3 wr)) (fun _ i _ => E.length - (intOf i).toNat)
    case atStart => exact ⟨0, Nat.zero_le _, rfl, rfl, Lib.hid (Below.refl _ _)⟩
    case round =>
      obtain ⟨k, hk, rfl, rfl, HK⟩ := hrel
      by_cases hlt : k < E.length
      · rcases (I3.out.keep HK.out (Nat.le_refl _)).at_ with h | ⟨b, off, rfl, hb1, hc⟩
        · subst h; simp at hlt
        obtain ⟨p, c, hcx, hpc, hin⟩ := hc k hlt
        have hrow := HROW.out k hlt
        have hfb := HFB.out k (by omega)
        have HS := Lib.hid (HFS.out k hlt)
        have HIN := Lib.hid hin
        clear hc hin
        generalize E.getD k [] = z at hcx hpc hrow HS HIN
        have hpb := HPB.out z hrow.1 hrow.2
        have HM : Hid (∀ W, Keep wr W → Calls Try.prog 66 #[.slice p z.length c] W fun e w' => e = .returned (.int .i64 (sqs z)) ∧ Keep W w') := Lib.hid (fun W kk => by
          first
            | exact l08Most_any p c z W (HIN.out.keep kk (Nat.le_refl _)) hrow.2
            | exact l08Squares_any p c z W (HIN.out.keep kk (Nat.le_refl _)) hrow.1 hrow.2)
        generalize foldP sqs (·+·) (E.take k) = m at *
        generalize sqs z = q at *
        have V1 : IntKind.i64.wrap (m + q) = m + q := IntWalk.i64_in _ (by omega)
        go_wp2_with (first | (go_at_call 66; refine (HM.out _ (by go_grown)).mono ?_; rintro e w7 ⟨rfl, k7⟩) | (go_at_call 64; refine (l00Max_any _ _ _).mono ?_; rintro e w8 ⟨rfl, rfl⟩))
        go_roundw
        case rel => exact ⟨k + 1, by omega, by go_num, by rw [HS.out], Lib.hid (HK.out.next (Keep.next (by go_grown) k7))⟩
        case measure => simp [intOf]; omega
      · have he := Lib.hid (show k = E.length by omega)
        go_wp2
        go_ret2
        have e := he.out
        subst e
        exact ⟨congrArg (fun x => Ending.returned (Value.tuple #[.int .i64 (foldP sqs (·+·) x), .bool true])) List.take_length, K3.out.next HK.out⟩
end Go.Proofs.Ytmckbjhmkcbjgaa
