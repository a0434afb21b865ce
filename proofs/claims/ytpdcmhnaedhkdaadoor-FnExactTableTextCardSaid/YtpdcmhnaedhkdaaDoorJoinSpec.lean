/- Lists as texts: the model's side. -/
import Derived.Test.YtpdcmhnaedhkdaaDoorJoin
import Derived.Laws.Concat
namespace Go.Proofs.YtpdcmhnaedhkdaaDoor
open Go.ChangeShapes Go.WideShapes Go.ChangeAt Go.RowKit
set_option linter.unusedVariables false
theorem bstr_cat (a b : List UInt8) : bstr a ++ bstr b = bstr (a ++ b) := by unfold bstr; rw [ByteArray.mk_append_mk]; first | done | simp
theorem bstr_comma (a : List UInt8) : (⟨#[44]⟩ : ByteArray) ++ bstr a = bstr (44 :: a) := by show bstr [44] ++ bstr a = _; rw [bstr_cat]; rfl
theorem bstr_size (a : List UInt8) : (bstr a).size = a.length := by simp [bstr, ByteArray.size]
set_option maxHeartbeats 1600000 in
set_option maxRecDepth 100000 in
theorem l01Text_any (ad : Option Addr) (cap : Nat) (zs : List Int) (w : World) (hz : Ints w ad zs) (hs : zs.length ≤ 40) :
    Calls Tryd.prog 63 #[.slice ad zs.length cap] w fun e w' => e = .returned (.string (bstr (txt zs))) ∧ Keep w w' := by
  by_cases h0 : zs = []
  · subst h0
    go_enter Tryd.func63, Tryd.ntmps63
    go_wp2
    go_ret
    exact ⟨rfl, Below.refl _ _⟩
  · have hl : 0 < zs.length := Nat.pos_of_ne_zero fun h => h0 (List.eq_nil_of_length_eq_zero h)
    have hl1 : ((zs.length : Int) == 0) = false := by simp; exact h0
    have HT := Lib.hid (show txt zs = Lib.join (zs.map Lib.itoa) [44] from by rw [txt, if_neg h0])
    have HF := Lib.hid (show Lib.join ((zs.take 1).map Lib.itoa) [44] = Lib.itoa (zs.getD 0 0) from by
      cases zs with
      | nil => exact absurd rfl h0
      | cons z r => simp [Lib.join_one])
    have hmem0 : zs.getD 0 0 ∈ zs := by rw [List.getD_eq_getElem?_getD, List.getElem?_eq_getElem hl]; exact List.getElem_mem hl
    have HD0 := Lib.hid (fun W => l01Dec_any (zs.getD 0 0) W (hz.wf _ hmem0))
    clear h0 hmem0
    rcases hz.at_ with h | ⟨b, off, rfl, hb, hc⟩
    · subst h; simp at hl
    have hc0 := hc 0 hl
    rw [Nat.add_zero] at hc0
    have HC := Lib.hid hc; clear hc
    have HW := Lib.hid hz.wf
    clear hz
    generalize zs.getD 0 0 = x0 at hc0 HF HD0
    go_enter Tryd.func63, Tryd.ntmps63
    go_wp2_with (go_at_call 54; refine (HD0.out _).mono ?_)
    rintro e w1 ⟨rfl, k1⟩
    have HK1 := Lib.hid (show Keep w w1 from Keep.next (by go_grown) k1)
    clear k1
    go_wp2
    go_loopw [3, 4] (fun o i wr => ∃ k : Nat, 1 ≤ k ∧ k ≤ zs.length ∧ i = .int .i64 k ∧ o = .string (bstr (Lib.join ((zs.take k).map Lib.itoa) [44])) ∧ Keep w wr)
      (fun o i _ => zs.length - (intOf i).toNat)
    case atStart => exact ⟨1, Nat.le_refl _, hl, rfl, by rw [HF.out]; rfl, HK1.out⟩
    case round =>
      obtain ⟨k, hk0, hk, rfl, rfl, hbel⟩ := hrel
      by_cases hlt : k < zs.length
      · have hcx : wr.cell? ⟨b, off + k, none⟩ = some (.int .i64 (zs.getD k 0)) := (hbel.cell (by exact hb)).trans (HC.out k hlt)
        have hmem : zs.getD k 0 ∈ zs := by rw [List.getD_eq_getElem?_getD, List.getElem?_eq_getElem hlt]; exact List.getElem_mem hlt
        have HD := Lib.hid (fun W => l01Dec_any (zs.getD k 0) W (HW.out _ hmem))
        have HJ := Lib.hid (join_step zs k hk0 hlt)
        have hil := itoa_len _ (HW.out _ hmem)
        have hjl := txt_len (zs.take k) (fun z hz => HW.out z (List.mem_of_mem_take hz))
        have htk : (zs.take k).length ≤ 40 := by rw [List.length_take]; omega
        have hjl2 : (Lib.join ((zs.take k).map Lib.itoa) [44]).length ≤ 840 := by omega
        clear hjl htk hmem
        generalize Lib.join ((zs.take k).map Lib.itoa) [44] = t at HJ hjl2
        generalize zs.getD k 0 = x at hcx HD HJ hil
        have hs1 : ((bstr t).size : Int) ≤ 840 := by rw [bstr_size]; omega
        have hs2 : ((bstr (44 :: Lib.itoa x)).size : Int) ≤ 21 := by rw [bstr_size]; simp; omega
        have hs3 : ((bstr (Lib.itoa x)).size : Int) ≤ 20 := by rw [bstr_size]; omega
        have HL := Lib.hid hbel; clear hbel hjl2 hil
        go_wp2_with (go_at_call 54; refine (HD.out _).mono ?_)
        rintro e w2 ⟨rfl, k2⟩
        have HL2 := Lib.hid (show Keep w w2 from Keep.next HL.out (Keep.next (by go_grown) k2))
        have hbs : (⟨(Lib.itoa x).toArray⟩ : ByteArray) = bstr (Lib.itoa x) := rfl
        rw [hbs]
        have hcm := bstr_comma (Lib.itoa x)
        clear k2
        go_wp2
        go_roundw
        case rel =>
          refine ⟨k + 1, by omega, by omega, by go_num, ?_, HL2.out⟩
          rw [HJ.out, bstr_cat]; simp
        case measure => simp [intOf]; omega
      · go_wp2
        go_ret
        have he : k = zs.length := by omega
        subst he
        refine ⟨?_, hbel⟩
        rw [HT.out]; simp
end Go.Proofs.YtpdcmhnaedhkdaaDoor
