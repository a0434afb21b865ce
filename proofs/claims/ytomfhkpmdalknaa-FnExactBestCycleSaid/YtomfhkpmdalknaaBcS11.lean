/- The best cycle: the model's side. -/
import Derived.Test.YtomfhkpmdalknaaBcP11
import Derived.Test.YtomfhkpmdalknaaInts
import Derived.Deep.LoopGhost
namespace Go.Proofs.Ytomfhkpmdalknaa
open Go.ChangeShapes Go.WideShapes Go.ChangeAt Go.RowKit Go.Deep
set_option linter.unusedVariables false
theorem mx_ab (d e : Int) (h : e = -d) : mx d e = ab d := by subst h; rfl
set_option maxHeartbeats 3200000 in
set_option maxRecDepth 100000 in
theorem specBestCycle_any (num den most : Int) (w : World) (un : In64 num) (ud : In64 den) (um : In64 most) :
    Calls Try.prog 30 #[.int .i64 num, .int .i64 den, .int .i64 most] w fun e w' => e = .returned (.tuple #[.int .i64 (bcV num den most).1, .int .i64 (bcV num den most).2, .bool (bcB num den most)]) ∧ Keep w w' := by
  have HNO : Hid (bcB num den most = false → bcV num den most = (0, 0)) := Lib.hid (fun h => by simp [bcV, h])
  have HDD : Hid (bcB num den most = (inB den 1 1000 && (inB num 0 den && inB most 1 400))) := Lib.hid rfl
  cases h1 : inB den 1 1000
  · have hb : bcB num den most = false := by rw [HDD.out, h1]; rfl
    rw [HNO.out hb, hb]
    go_enter Try.func30, Try.ntmps30
    go_wp2_with (go_at_call 73; refine (l00In_any _ _ _ _).mono ?_; rw [h1]; rintro e w' ⟨rfl, rfl⟩)
    refine bodyPost_ret (v := .tuple #[.int .i64 0, .int .i64 0, .bool false]) (by simp [results, Try.results30, go_sem]) rfl ?_
    exact ⟨rfl, Below.refl _ _⟩
  cases h2 : inB num 0 den
  · have hb : bcB num den most = false := by rw [HDD.out, h1, h2]; rfl
    rw [HNO.out hb, hb]
    go_enter Try.func30, Try.ntmps30
    go_wp2_with (go_at_call 73; refine (l00In_any _ _ _ _).mono ?_; (first | rw [h1] | rw [h2]); rintro e w' ⟨rfl, rfl⟩)
    refine bodyPost_ret (v := .tuple #[.int .i64 0, .int .i64 0, .bool false]) (by simp [results, Try.results30, go_sem]) rfl ?_
    exact ⟨rfl, Below.refl _ _⟩
  cases h3 : inB most 1 400
  · have hb : bcB num den most = false := by rw [HDD.out, h1, h2, h3]; rfl
    rw [HNO.out hb, hb]
    go_enter Try.func30, Try.ntmps30
    go_wp2_with (go_at_call 73; refine (l00In_any _ _ _ _).mono ?_; (first | rw [h1] | rw [h2] | rw [h3]); rintro e w' ⟨rfl, rfl⟩)
    refine bodyPost_ret (v := .tuple #[.int .i64 0, .int .i64 0, .bool false]) (by simp [results, Try.results30, go_sem]) rfl ?_
    exact ⟨rfl, Below.refl _ _⟩
  have hd := inB_iff.1 h1; have hu := inB_iff.1 h2; have hm := inB_iff.1 h3
  have hb : bcB num den most = true := by rw [HDD.out, h1, h2, h3]; rfl
  obtain ⟨M, rfl⟩ : ∃ M : Nat, most = M := ⟨most.toNat, by omega⟩
  rw [show bcV num den (M : Int) = bcN num den M from by simp [bcV, hb], hb]
  have HIN := Lib.hid (fun m (h : m ≤ M) => bcN_in (num := num) (den := den) (M := M) (by omega) m h)
  have HKI := Lib.hid (fun (s : Int × Int) (n : Int) hs hn m h => bcK_in (num := num) (den := den) (s := s) (n := n) (M := (M : Int)) hs hn m h)
  have HBD := Lib.hid (fun (k n : Int) hk hn => bc_bd (num := num) (den := den) (k := k) (n := n) hd hu hk hn)
  have HN0 : Hid (bcN num den 0 = (0, 1)) := Lib.hid rfl
  have HNS : Hid (∀ m : Nat, bcN num den (m + 1) = bcK num den (bcN num den m) ((m : Int) + 1) (m + 2)) := Lib.hid (fun m => rfl)
  have HK0 : Hid (∀ (s : Int × Int) (n : Int), bcK num den s n 0 = s) := Lib.hid (fun s n => rfl)
  have HKS : Hid (∀ (s : Int × Int) (n : Int) (m : Nat), bcK num den s n (m + 1) = bcU num den (bcK num den s n m) (m : Int) n) := Lib.hid (fun s n m => rfl)
  have HUU : Hid (∀ (s : Int × Int) (k n : Int), bcU num den s k n = if bcD num den k n * s.2 < bcD num den s.1 s.2 * n then (k, n) else s) := Lib.hid (fun s k n => rfl)
  have HDV : Hid (∀ k n : Int, bcD num den k n = ab (k * den - num * n)) := Lib.hid (fun k n => rfl)
  clear HNO HDD hb
  generalize bcN num den = N at *
  generalize bcK num den = K at *
  go_enter Try.func30, Try.ntmps30
  go_wp2_with (go_at_call 73; refine (l00In_any _ _ _ _).mono ?_; (first | rw [h1] | rw [h2] | rw [h3]); rintro e w' ⟨rfl, rfl⟩)
  go_loopg [9, 10, 11] M (fun kk l c n wr => ∃ m : Nat, m ≤ M ∧ kk = M - m ∧ n = .int .i64 ((m : Int) + 1) ∧ l = .int .i64 (N m).1 ∧ c = .int .i64 (N m).2 ∧ Hid (Keep w wr))
  case atStart => exact ⟨0, by omega, rfl, rfl, by rw [HN0.out], by rw [HN0.out], Lib.hid (Below.refl _ _)⟩
  case round =>
    obtain ⟨m, hm1, rfl, rfl, rfl, rfl, HK⟩ := hrel
    have hin := HIN.out m hm1
    by_cases hlt : m < M
    · have hle : (m : Int) + 1 ≤ (M : Int) := by omega
      have HNM := Lib.hid (HNS.out m)
      have HKM := Lib.hid (fun j h => HKI.out (N m) ((m : Int) + 1) hin (by omega) j h)
      have HK0M := Lib.hid (HK0.out (N m) ((m : Int) + 1))
      have HKSM := Lib.hid (fun j => HKS.out (N m) ((m : Int) + 1) j)
      have HBN := Lib.hid (fun (k : Int) h => HBD.out k ((m : Int) + 1) h (by omega))
      obtain ⟨S, hS⟩ : ∃ S : Nat → Int × Int, S = K (N m) ((m : Int) + 1) := ⟨_, rfl⟩
      rw [← hS] at HNM HKM HK0M HKSM
      clear hS
      go_wp2
      rw [← HK0M.out]
      go_loop [9, 10, 12] (fun l c k => ∃ j : Nat, j ≤ m + 2 ∧ k = .int .i64 j ∧ l = .int .i64 (S j).1 ∧ c = .int .i64 (S j).2) (fun _ _ k => m + 2 - (intOf k).toNat)
      case atStart => exact ⟨0, by omega, rfl, rfl, rfl⟩
      case round =>
        obtain ⟨j, hj, rfl, rfl, rfl⟩ := hrel
        have hs := HKM.out j (by omega)
        by_cases hjl : j < m + 2
        · have hle2 : (j : Int) ≤ (m : Int) + 1 := by omega
          obtain ⟨⟨q1, q2⟩, ⟨q3, q4⟩, q5⟩ := HBN.out (j : Int) (by omega)
          obtain ⟨⟨r1, r2⟩, ⟨r3, r4⟩, r5⟩ := HBD.out (S j).1 (S j).2 (by omega) (by omega)
          have t1 := bc_bd2 q5 (show 0 ≤ (S j).2 ∧ (S j).2 ≤ 400 by omega)
          have t2 := bc_bd2 r5 (show 0 ≤ (m : Int) + 1 ∧ (m : Int) + 1 ≤ 400 by omega)
          have HSJ := Lib.hid (HKSM.out j)
          rw [HUU.out] at HSJ
          have HD1 := Lib.hid (HDV.out (j : Int) ((m : Int) + 1))
          have HD2 := Lib.hid (HDV.out (S j).1 (S j).2)
          generalize bcD num den (j : Int) ((m : Int) + 1) = D1 at *
          generalize bcD num den (S j).1 (S j).2 = D2 at *
          have HM1 : Hid (∀ x, Calls Try.prog 74 #[.int .i64 ((j : Int) * den - num * ((m : Int) + 1)), .int .i64 (num * ((m : Int) + 1) - (j : Int) * den)] x fun e w' => e = .returned (.int .i64 D1) ∧ x = w') := Lib.hid (fun x => by have h := l00Max_any ((j : Int) * den - num * ((m : Int) + 1)) (num * ((m : Int) + 1) - (j : Int) * den) x; rwa [mx_ab _ _ (by omega), ← HD1.out] at h)
          have HM2 : Hid (∀ x, Calls Try.prog 74 #[.int .i64 ((S j).1 * den - num * (S j).2), .int .i64 (num * (S j).2 - (S j).1 * den)] x fun e w' => e = .returned (.int .i64 D2) ∧ x = w') := Lib.hid (fun x => by have h := l00Max_any ((S j).1 * den - num * (S j).2) (num * (S j).2 - (S j).1 * den) x; rwa [mx_ab _ _ (by omega), ← HD2.out] at h)
          generalize hsl : (S j).1 = sl at *
          generalize hsc : (S j).2 = sc at *
          have HSL := Lib.hid hsl; have HSC := Lib.hid hsc
          clear hsl hsc
          have W1 : IntKind.i64.wrap ((j : Int) * den) = (j : Int) * den := IntWalk.i64_in _ (by omega)
          have W2 : IntKind.i64.wrap (num * ((m : Int) + 1)) = num * ((m : Int) + 1) := IntWalk.i64_in _ (by omega)
          have W3 : IntKind.i64.wrap (sl * den) = sl * den := IntWalk.i64_in _ (by omega)
          have W4 : IntKind.i64.wrap (num * sc) = num * sc := IntWalk.i64_in _ (by omega)
          have W5 : IntKind.i64.wrap (D1 * sc) = D1 * sc := IntWalk.i64_in _ (by omega)
          have W6 : IntKind.i64.wrap (D2 * ((m : Int) + 1)) = D2 * ((m : Int) + 1) := IntWalk.i64_in _ (by omega)
          by_cases c : D1 * sc < D2 * ((m : Int) + 1)
          · rw [if_pos c] at HSJ
            go_wp2_with (go_at_call 74; first | (with_reducible refine (HM1.out _).mono ?_; rintro e w' ⟨rfl, rfl⟩) | (with_reducible refine (HM2.out _).mono ?_; rintro e w' ⟨rfl, rfl⟩))
            go_round
            case rel => exact ⟨j + 1, by omega, by go_num, by rw [HSJ.out], by rw [HSJ.out]⟩
            case measure => simp [intOf]; omega
          · rw [if_neg c] at HSJ
            go_wp2_with (go_at_call 74; first | (with_reducible refine (HM1.out _).mono ?_; rintro e w' ⟨rfl, rfl⟩) | (with_reducible refine (HM2.out _).mono ?_; rintro e w' ⟨rfl, rfl⟩))
            go_round
            case rel => exact ⟨j + 1, by omega, by go_num, by rw [HSJ.out, HSL.out], by rw [HSJ.out, HSC.out]⟩
            case measure => simp [intOf]; omega
        · have HJE := Lib.hid (show j = m + 2 by omega)
          have hle2 : ¬ (j : Int) ≤ (m : Int) + 1 := by omega
          go_wp2
          go_roundg (M - (m + 1))
          case measure => omega
          case rel => exact ⟨m + 1, by omega, rfl, by go_num, by rw [HNM.out, HJE.out], by rw [HNM.out, HJE.out], HK⟩
    · have HE := Lib.hid (show m = M by omega)
      have hle : ¬ (m : Int) + 1 ≤ (M : Int) := by omega
      go_wp2
      refine bodyPost_ret (v := .tuple #[.int .i64 (N m).1, .int .i64 (N m).2, .bool true]) (by simp [results, Try.results30, go_sem]) rfl ?_
      exact ⟨by rw [HE.out], HK.out⟩
end Go.Proofs.Ytomfhkpmdalknaa
