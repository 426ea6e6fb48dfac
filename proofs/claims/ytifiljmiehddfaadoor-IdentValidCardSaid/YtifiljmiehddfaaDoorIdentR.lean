/-
  Walk of the chapter's examples, as ident's laws ask them. Condition: none.
-/
import Derived.Test.YtifiljmiehddfaaDoorIdentQ
import Derived.Test.YtifiljmiehddfaaDoorNamePlainC
namespace Go.Proofs.YtifiljmiehddfaaDoor.NamW
open Go.ChangeShapes Go.WideShapes Go.ChangeAt Go.RowKit
open PairW NamP StrW
def exS : Ss := [⟨#[97]⟩, ⟨#[97, 55]⟩, ⟨#[97, 48, 55]⟩, ⟨#[97, 48, 48, 55]⟩, ⟨#[97, 56]⟩, ⟨#[97, 49, 48]⟩, ⟨#[97, 45, 98]⟩, ⟨#[97, 98]⟩, ⟨#[98]⟩]
theorem exS_bs : ∀ i, i < 9 → bs (atS exS i) = exL.getD i [] := by decide
theorem exS_less (i k : Nat) (hi : i < 9) (hk : k < 9) : lessB (bs (atS exS i)) (bs (atS exS k)) = decide (i < k) := by
  rw [exS_bs i hi, exS_bs k hk, ← lessF_less]
  exact ex_less i hi k hk
theorem exS_short : ∀ i, i < 9 → (atS exS i).size ≤ maxLen := by unfold maxLen; decide
abbrev p10 : ByteArray := ⟨#[112, 49, 48]⟩
abbrev p9 : ByteArray := ⟨#[112, 57]⟩
abbrev qq : ByteArray := ⟨#[113]⟩
theorem three_new : newE [p10, qq, p9] = 0 := by
  refine new_ok ?_ ?_ (by decide)
  · decide
  · decide
theorem three_sorted : sortS [p10, qq, p9] = [p9, p10, qq] := by
  refine (sort_unique ?_ ?_ ?_ ?_).symm
  · decide
  · decide
  · have h1 : lessS p9 p10 = true := by show lessB _ _ = true; rw [← lessF_less]; decide +kernel
    have h2 : lessS p9 qq = true := by show lessB _ _ = true; rw [← lessF_less]; decide +kernel
    have h3 : lessS p10 qq = true := by show lessB _ _ = true; rw [← lessF_less]; decide +kernel
    unfold Asc
    simp [h1, h2, h3]
  · exact (List.Perm.swap p10 p9 [qq]).trans ((List.Perm.swap qq p9 []).cons p10)
theorem three_find : findI qq [p10, qq, p9] = 1 := find_hit (k := 1) (by decide) (by decide) rfl
theorem three_short : Short [p10, qq, p9] := by unfold Short maxLen; decide
theorem NewRet.ok {T : World → (Nat → Prop) → Nat → Ss → Prop} {l : Ss} {w w' : World} {e : Ending} (h : NewRet T l 0 w e w') : ∃ g F, e = .returned (.tuple #[.pointer (some ⟨g, 0, none⟩), .int .i64 0]) ∧ Own w w' ∧ T w' F g l ∧ ∀ k, F k → w.heap.size ≤ k := by
  rcases h with ⟨h, _⟩ | ⟨_, h⟩
  · exact absurd rfl h
  · exact h
set_option maxRecDepth 100000 in
set_option maxHeartbeats 8000000 in
theorem awake_any {T : World → (Nat → Prop) → Nat → Ss → Prop} (C : IdentC T) (w : World) : Calls Tryd.prog 13 #[] w fun e w' => e = .returned (.bool true) ∧ Own w w' := by
  have hs0 : (⟨#[112, 97, 115, 45, 100, 101, 45, 50]⟩ : ByteArray).size ≤ maxLen := by unfold maxLen; decide
  have HV0 : Hid (vldB (bs ⟨#[112, 97, 115, 45, 100, 101, 45, 50]⟩) = true) := Lib.hid (by decide)
  have hs1 : (⟨#[97, 98, 99, 100, 101, 102, 103, 104, 105, 106, 107, 108, 109, 110, 111, 112, 113, 114, 115, 116, 117, 118, 119, 120]⟩ : ByteArray).size ≤ maxLen := by unfold maxLen; decide
  have HV1 : Hid (vldB (bs ⟨#[97, 98, 99, 100, 101, 102, 103, 104, 105, 106, 107, 108, 109, 110, 111, 112, 113, 114, 115, 116, 117, 118, 119, 120]⟩) = true) := Lib.hid (by decide)
  have hs2 : (⟨#[97, 98, 99, 100, 101, 102, 103, 104, 105, 106, 107, 108, 109, 110, 111, 112, 113, 114, 115, 116, 117, 118, 119, 120, 121]⟩ : ByteArray).size ≤ maxLen := by unfold maxLen; decide
  have HV2 : Hid (vldB (bs ⟨#[97, 98, 99, 100, 101, 102, 103, 104, 105, 106, 107, 108, 109, 110, 111, 112, 113, 114, 115, 116, 117, 118, 119, 120, 121]⟩) = false) := Lib.hid (by decide)
  have hs3 : (⟨#[50, 45, 115, 116, 101, 112]⟩ : ByteArray).size ≤ maxLen := by unfold maxLen; decide
  have HV3 : Hid (vldB (bs ⟨#[50, 45, 115, 116, 101, 112]⟩) = false) := Lib.hid (by decide)
  have hs4 : (⟨#[97, 45, 45, 98]⟩ : ByteArray).size ≤ maxLen := by unfold maxLen; decide
  have HV4 : Hid (vldB (bs ⟨#[97, 45, 45, 98]⟩) = false) := Lib.hid (by decide)
  have hs5 : (⟨#[97, 45]⟩ : ByteArray).size ≤ maxLen := by unfold maxLen; decide
  have HV5 : Hid (vldB (bs ⟨#[97, 45]⟩) = false) := Lib.hid (by decide)
  have hs6 : (⟨#[]⟩ : ByteArray).size ≤ maxLen := by unfold maxLen; decide
  have HV6 : Hid (vldB (bs ⟨#[]⟩) = false) := Lib.hid (by decide)
  have HS0 := Lib.hid hs0
  clear hs0
  have HS1 := Lib.hid hs1
  clear hs1
  have HS2 := Lib.hid hs2
  clear hs2
  have HS3 := Lib.hid hs3
  clear hs3
  have HS4 := Lib.hid hs4
  clear hs4
  have HS5 := Lib.hid hs5
  clear hs5
  have HS6 := Lib.hid hs6
  clear hs6
  have g : Own w w := Own.refl w
  go_enter Tryd.func13, Tryd.ntmps13
  go_upto_region 3 with (go_at_call 11; (first | (with_reducible refine (C.valid ⟨#[112, 97, 115, 45, 100, 101, 45, 50]⟩ true _ HS0.out HV0).mono ?_) | (with_reducible refine (C.valid ⟨#[97, 98, 99, 100, 101, 102, 103, 104, 105, 106, 107, 108, 109, 110, 111, 112, 113, 114, 115, 116, 117, 118, 119, 120]⟩ true _ HS1.out HV1).mono ?_) | (with_reducible refine (C.valid ⟨#[97, 98, 99, 100, 101, 102, 103, 104, 105, 106, 107, 108, 109, 110, 111, 112, 113, 114, 115, 116, 117, 118, 119, 120, 121]⟩ false _ HS2.out HV2).mono ?_) | (with_reducible refine (C.valid ⟨#[50, 45, 115, 116, 101, 112]⟩ false _ HS3.out HV3).mono ?_) | (with_reducible refine (C.valid ⟨#[97, 45, 45, 98]⟩ false _ HS4.out HV4).mono ?_) | (with_reducible refine (C.valid ⟨#[97, 45]⟩ false _ HS5.out HV5).mono ?_) | (with_reducible refine (C.valid ⟨#[]⟩ false _ HS6.out HV6).mono ?_)); rintro e w1 ⟨rfl, hg⟩; replace g := g.trans hg; clear hg)
  have g2 : Own w (w1.alloc (.cells #[.string ⟨#[97]⟩, .string ⟨#[97, 55]⟩, .string ⟨#[97, 48, 55]⟩, .string ⟨#[97, 48, 48, 55]⟩, .string ⟨#[97, 56]⟩, .string ⟨#[97, 49, 48]⟩, .string ⟨#[97, 45, 98]⟩, .string ⟨#[97, 98]⟩, .string ⟨#[98]⟩] 9)) := g.alloc _
  have hcl : ∀ i, i < 9 → (w1.alloc (.cells #[.string ⟨#[97]⟩, .string ⟨#[97, 55]⟩, .string ⟨#[97, 48, 55]⟩, .string ⟨#[97, 48, 48, 55]⟩, .string ⟨#[97, 56]⟩, .string ⟨#[97, 49, 48]⟩, .string ⟨#[97, 45, 98]⟩, .string ⟨#[97, 98]⟩, .string ⟨#[98]⟩] 9)).cell? ⟨w1.heap.size, i, none⟩ = some (.string (atS exS i)) := by
    intro i hi
    match i, hi with
    | 0, _ => go_simp; rfl
    | 1, _ => go_simp; rfl
    | 2, _ => go_simp; rfl
    | 3, _ => go_simp; rfl
    | 4, _ => go_simp; rfl
    | 5, _ => go_simp; rfl
    | 6, _ => go_simp; rfl
    | 7, _ => go_simp; rfl
    | 8, _ => go_simp; rfl
  have HCL := Lib.hid hcl
  have HES := Lib.hid exS_short
  have HEL := Lib.hid exS_less
  clear g hcl HV0 HV1 HV2 HV3 HV4 HV5 HV6 HS0 HS1 HS2 HS3 HS4 HS5 HS6
  go_upto_region 4 with (fail)
  generalize w1.alloc (.cells #[.string ⟨#[97]⟩, .string ⟨#[97, 55]⟩, .string ⟨#[97, 48, 55]⟩, .string ⟨#[97, 48, 48, 55]⟩, .string ⟨#[97, 56]⟩, .string ⟨#[97, 49, 48]⟩, .string ⟨#[97, 45, 98]⟩, .string ⟨#[97, 98]⟩, .string ⟨#[98]⟩] 9) = W0 at *
  generalize w1.heap.size = L at *
  go_wp2
  go_loopw [2] (fun v wr => ∃ i : Nat, v = .int .i64 i ∧ i ≤ 9 ∧ Own W0 wr) (fun v _ => 9 - (intOf v).toNat)
  case atStart => exact ⟨0, rfl, by omega, Own.refl W0⟩
  case round =>
    obtain ⟨i, rfl, hi, q⟩ := hrel
    by_cases hlt : i < 9
    · have hii : (i : Int) < 9 := by omega
      generalize wr = wa at *
      go_wp2
      go_loopw [3] (fun v wr => ∃ k : Nat, v = .int .i64 k ∧ k ≤ 9 ∧ Own W0 wr) (fun v _ => 9 - (intOf v).toNat)
      case atStart => exact ⟨0, rfl, by omega, q⟩
      case round =>
        obtain ⟨k, rfl, hk, q2⟩ := hrel
        by_cases hlk : k < 9
        · have hki : (k : Int) < 9 := by omega
          have e0 := q2.cell (HCL.out i hlt)
          have e1 := q2.cell (HCL.out k hlk)
          have HX := Lib.hid (HES.out i hlt)
          have HY := Lib.hid (HES.out k hlk)
          have hle := HEL.out i k hlt hlk
          obtain ⟨x, hx⟩ : ∃ x, atS exS i = x := ⟨_, rfl⟩
          obtain ⟨y, hy⟩ : ∃ y, atS exS k = y := ⟨_, rfl⟩
          rw [hx] at e0 HX hle
          rw [hy] at e1 HY hle
          obtain ⟨tl, htl⟩ : ∃ t, decide (i < k) = t := ⟨_, rfl⟩
          rw [htl] at hle
          have HL := Lib.hid hle
          have d1 : decide ((i : Int) < (k : Int)) = tl := by rw [← htl]; exact decide_eq_decide.2 (by omega)
          have c0 : ∀ z : After wr, z.w.cell? ⟨L, i, none⟩ = some (.string x) := fun z => z.o.cell e0
          have c1 : ∀ z : After wr, z.w.cell? ⟨L, k, none⟩ = some (.string y) := fun z => z.o.cell e1
          clear hx hy hle
          go_upto_region 10 with (fail)
          refine region_after wr (by kernel_rfl) (by kernel_rfl) ?_
          repeat (first | go_big_quiet_step ((go_at_call 14; with_reducible refine (C.less x y tl _ HX.out HY.out HL).mono ?_; rintro e wq ⟨rfl, hgq⟩; exact ⟨rfl, ⟨wq, (After.o _).trans hgq⟩, rfl⟩)) | quiet_step ((go_at_call 14; with_reducible refine (C.less x y tl _ HX.out HY.out HL).mono ?_; rintro e wq ⟨rfl, hgq⟩; exact ⟨rfl, ⟨wq, (After.o _).trans hgq⟩, rfl⟩)))
          refine wpQuiet_nil ?_
          rintro _ ⟨z, rfl⟩
          have d4 := z.o
          generalize z.w = w5 at *
          clear c0 c1
          cases tl
          all_goals
            go_wp2
            go_roundw
            case rel => exact ⟨k + 1, by go_num, by omega, q2.trans d4⟩
            case measure => simp [intOf]; omega
        · obtain rfl : k = 9 := by omega
          go_wp2
          go_roundw
          case rel => exact ⟨i + 1, by go_num, by omega, q2⟩
          case measure => simp [intOf]; omega
    · obtain rfl : i = 9 := by omega
      have HSA : Hid ((⟨#[65]⟩ : ByteArray).size ≤ maxLen) := Lib.hid (by unfold maxLen; decide)
      have HSB : Hid ((⟨#[98]⟩ : ByteArray).size ≤ maxLen) := Lib.hid (by unfold maxLen; decide)
      have HAB : Hid (lessB (bs ⟨#[65]⟩) (bs ⟨#[98]⟩) = false) := Lib.hid (less_no (.inl (by decide)))
      have q0 : Own w wr := g2.trans q
      clear q g2 HCL HES HEL hi hlt
      go_upto_region 14 with (go_at_call 14; with_reducible refine (C.less ⟨#[65]⟩ ⟨#[98]⟩ false _ HSA.out HSB.out HAB).mono ?_; rintro e w5 ⟨rfl, hg⟩; replace q0 := q0.trans hg; clear hg)
      have g5 : Own w5 (w5.alloc (.cells #[.string ⟨#[112, 49, 48]⟩, .string ⟨#[113]⟩, .string ⟨#[112, 57]⟩] 9)) := (Own.refl w5).alloc _
      have HPN : Hid (Strs (w5.alloc (.cells #[.string ⟨#[112, 49, 48]⟩, .string ⟨#[113]⟩, .string ⟨#[112, 57]⟩] 9)) (.slice (some ⟨w5.heap.size, 0, none⟩) 3 3) [p10, qq, p9]) := Lib.hid (strs_lit (l := [p10, qq, p9]) (by decide) (by unfold maxLen; omega) (fun i hi => by
        match i, hi with
        | 0, _ => go_simp; rfl
        | 1, _ => go_simp; rfl
        | 2, _ => go_simp; rfl))
      have HSN := Lib.hid three_short
      have HNE := Lib.hid three_new
      go_upto_region 15 with (go_at_call 16; refine (C.new [p10, qq, p9] _ 0 _ HPN HSN (by decide) HNE).mono ?_; rintro e w6 hq; obtain ⟨tg, F, rfl, hg, hT, hF⟩ := hq.ok; replace q0 := (q0.trans g5).trans hg; clear hq hg)
      have HT := Lib.hid hT
      clear hT hF HPN HSN HNE g5
      go_upto_region 18 with (go_at_call 26; refine (C.sorted [p10, qq, p9] tg 3 F _ HT rfl (by omega)).mono ?_; rintro e w7 ⟨A, cap, rfl, hrow, hg⟩; replace q0 := q0.trans hg; replace HT := Lib.hid (C.own HT.out hg); clear hg)
      rw [three_sorted] at hrow
      obtain ⟨rg, rc, hv, _, _⟩ := row_form hrow (by omega)
      injection hv with ev _ _
      subst ev
      have r0 : w7.cell? ⟨rg, 0, none⟩ = some (.string ⟨#[112, 57]⟩) := World.ownsRow.cellAt hrow 0 (by omega)
      have r1 : w7.cell? ⟨rg, 1, none⟩ = some (.string ⟨#[112, 49, 48]⟩) := World.ownsRow.cellAt hrow 1 (by omega)
      have r2 : w7.cell? ⟨rg, 2, none⟩ = some (.string ⟨#[113]⟩) := World.ownsRow.cellAt hrow 2 (by omega)
      clear hrow
      go_upto_region 20 with (fail)
      have HSQ : Hid ((qq : ByteArray).size ≤ maxLen) := Lib.hid (by unfold maxLen; decide)
      have HIX : Hid (idxV [p10, qq, p9] qq = 1 ∧ decide (0 ≤ findI qq [p10, qq, p9]) = true) := Lib.hid ⟨by unfold idxV; rw [three_find]; rfl, by rw [three_find]; rfl⟩
      have HNM : Hid (nameV [p10, qq, p9] 2 = p9 ∧ nameE [p10, qq, p9] 2 = 0) := Lib.hid (by decide)
      have HNX : Hid (nameV [p10, qq, p9] 3 = ⟨#[]⟩ ∧ nameE [p10, qq, p9] 3 = 6) := Lib.hid (by decide)
      go_upto_region 21 with (go_at_call 18; refine (C.index [p10, qq, p9] qq tg F 1 true _ HSQ.out HT HIX).mono ?_; rintro e w8 ⟨rfl, hg⟩; replace q0 := q0.trans hg; replace HT := Lib.hid (C.own HT.out hg); clear hg)
      go_upto_region 22 with (go_at_call 17; refine (C.name [p10, qq, p9] 2 tg F p9 0 _ HT HNM).mono ?_; rintro e w9 ⟨rfl, hg⟩; replace q0 := q0.trans hg; replace HT := Lib.hid (C.own HT.out hg); clear hg)
      go_upto_region 23 with (go_at_call 17; refine (C.name [p10, qq, p9] 3 tg F ⟨#[]⟩ 6 _ HT HNX).mono ?_; rintro e w10 ⟨rfl, hg⟩; replace q0 := q0.trans hg; clear hg)
      go_wp2
      go_ret
      exact ⟨rfl, q0⟩
end Go.Proofs.YtifiljmiehddfaaDoor.NamW
