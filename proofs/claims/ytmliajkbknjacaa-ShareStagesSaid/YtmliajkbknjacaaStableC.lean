/-
  Walk of the library's symMergeCmpFunc at []int where one part has one element, for whatever comparison that only reads. Condition: none.
-/
import Derived.Test.YtmliajkbknjacaaStableB
namespace Go.Proofs.Ytmliajkbknjacaa.StaW
open Go.ChangeShapes Go.WideShapes Go.ChangeAt Go.RowKit
open PairW CelW StaP
attribute [local go_sem ↓] Go.wp_at_zero Go.wp_at_succ
/-- Half of a sum, reckoned without a sign. -/
theorem half_facts {i j : Nat} (h : i + j ≤ 10000000) : ∃ s h2 : Nat, (i + j) / 2 = h2 ∧ IntKind.i64.wrap ((i : Int) + j) = (s : Int) ∧ IntKind.u64.wrap (s : Int) = (s : Int) ∧ (s : Int) / 2 = (h2 : Int) ∧ IntKind.i64.wrap (h2 : Int) = (h2 : Int) := by
  refine ⟨i + j, (i + j) / 2, rfl, (IntWalk.i64_in _ (by omega)).trans (by omega), ?_, by omega, IntWalk.i64_in _ (by omega)⟩
  rw [IntKind.wrap_u64]
  omega
set_option maxRecDepth 100000 in
set_option maxHeartbeats 4000000 in
theorem symOne_at {lt : Nat → Nat → Prop} {cf : Nat → Nat → Int} (gf : Nat) (lb : Array Value) (eg : ∀ args w, (callFunc gf args).run Try.prog w = .ok (.enter gf args) w) (B : Hid (Bef lt cf)) (base g n c a m b : Nat) (D : Nat → Nat) (w : World)
    (HR : Hid (Rd w base g n c D)) (HC : Hid (Cmps gf lb cf n w g)) (hn : n ≤ 1000000) (h2 : b ≤ n) (HT : Hid (Two lt a (a + 1) b D)) (hm : m = a + 1) (HE : Hid (∀ k, a ≤ k → k < b → D k < n)) :
    Calls Try.prog 45 #[.slice (some ⟨g, 0, none⟩) n c, .int .i64 (a : Int), .int .i64 (m : Int), .int .i64 (b : Int), .func (.func gf) #[] lb] w fun e w' => e = .returned (.tuple #[]) ∧ (∃ E, Rd w' base g n c E ∧ Mg lt a b D E) ∧ Gr w w' g := by
  have hab : a + 1 < b := HT.out.mb
  have e0 : IntKind.i64.wrap ((m : Int) - a) = 1 := (IntWalk.i64_in _ (by omega)).trans (by omega)
  have HM := Lib.hid hm
  clear hm
  go_enter Try.func45, Try.ntmps45
  go_wp2
  go_loopw [10, 11, 12] (fun x y _ wr => ∃ i j : Nat, x = .int .i64 (i : Int) ∧ y = .int .i64 (j : Int) ∧ OneR lt a b i j D ∧ Rd wr base g n c D ∧ Gr w wr g) (fun x y _ _ => (intOf y).toNat - (intOf x).toNat)
  case atStart => exact ⟨m, b, rfl, rfl, by rw [HM.out]; exact oneR_start (by omega), HR.out, Gr.refl _ _⟩
  case round =>
    obtain ⟨i, j, rfl, rfl, hone, hr, hg⟩ := hrel
    have hi0 := hone.i0
    have hjb := hone.jb
    have hle := hone.ij
    have HO := Lib.hid hone
    have HRR := Lib.hid hr
    have HG := Lib.hid hg
    by_cases hij : i < j
    · obtain ⟨q1, q2, q3, q4⟩ := hone.mid hij
      obtain ⟨s, h, hh, k1, k2, k3, k4⟩ := half_facts (i := i) (j := j) (by omega)
      have HH := Lib.hid hh
      rw [hh] at q1 q2 q3 q4
      obtain ⟨c0, f0⟩ := hr.at (i := h) (by omega)
      obtain ⟨c1, f1⟩ := hr.at (i := a) (by omega)
      have hx := HE.out h (by omega) (by omega)
      have hy := HE.out a (Nat.le_refl _) (by omega)
      obtain ⟨v, hv⟩ : ∃ v, cf (D h) (D a) = v := ⟨_, rfl⟩
      have HCC := Lib.hid (HC.out.at hg hx hy hv)
      have HV := Lib.hid hv
      obtain ⟨x, hxx⟩ : ∃ x, D h = x := ⟨_, rfl⟩
      obtain ⟨y, hyy⟩ : ∃ y, D a = y := ⟨_, rfl⟩
      rw [hxx] at c0 HCC
      rw [hyy] at c1 HCC
      have l0 : (h : Int) < n := by omega
      have l1 : (a : Int) < n := by omega
      have k5 : IntKind.i64.wrap ((h : Int) + 1) = ((h + 1 : Nat) : Int) := (IntWalk.i64_in _ (by omega)).trans (by omega)
      have d0 : decide ((i : Int) < j) = true := decide_eq_true (by omega)
      clear hone hr hg hx hy hv hxx hyy hh hle hi0 hjb
      go_upto_region 5 with (fail)
      go_quiet ((go_at_fn gf; exact Calls.quiet_of (HCC.out _)))
      by_cases hv0 : v < 0
      · have dv : decide (v < 0) = true := decide_eq_true hv0
        have HO2 := Lib.hid (HO.out.up B.out HT.out hij (by rw [HH.out, HV.out]; exact hv0))
        rw [HH.out] at HO2
        go_wp2
        go_roundw
        case rel => exact ⟨h + 1, j, rfl, rfl, HO2.out, HRR.out, HG.out.drewN _⟩
        case measure => simp [intOf]; omega
      · have dv : decide (v < 0) = false := decide_eq_false hv0
        have HO2 := Lib.hid (HO.out.down B.out HT.out hij (by rw [HH.out, HV.out]; exact hv0))
        rw [HH.out] at HO2
        go_wp2
        go_roundw
        case rel => exact ⟨i, h, rfl, rfl, HO2.out, HRR.out, HG.out.drewN _⟩
        case measure => simp [intOf]; omega
    · obtain rfl : i = j := by omega
      have k1 : IntKind.i64.wrap ((i : Int) - 1) = ((i - 1 : Nat) : Int) := (IntWalk.i64_in _ (by omega)).trans (by omega)
      obtain ⟨z, hz⟩ : ∃ z, i - 1 = z := ⟨_, rfl⟩
      rw [hz] at k1
      have HST := Lib.hid (hone.stop HT.out)
      rw [hz] at HST
      have hz0 : a ≤ z := by omega
      have hz1 : z + 1 ≤ n := by omega
      clear hone hr hg hij hle hz hi0 hjb
      generalize wr = wz at *
      go_wp2
      go_loopw [13] (fun x wr => ∃ k : Nat, x = .int .i64 (k : Int) ∧ a ≤ k ∧ k ≤ z ∧ Rd wr base g n c (mvR D a k) ∧ Gr w wr g) (fun x _ => z - (intOf x).toNat)
      case atStart => exact ⟨a, rfl, Nat.le_refl _, hz0, by rw [mvR_start]; exact HRR.out, HG.out⟩
      case round =>
        obtain ⟨k, rfl, hk0, hk1, hr, hg⟩ := hrel
        by_cases hkz : k < z
        · obtain ⟨c0, f0⟩ := hr.at (i := k) (by omega)
          obtain ⟨c1, f1⟩ := hr.at (i := k + 1) (by omega)
          have HSW := Lib.hid (hr.swap k (k + 1))
          rw [mvR_step hk0] at HSW
          obtain ⟨x, hxx⟩ : ∃ x, mvR D a k k = x := ⟨_, rfl⟩
          obtain ⟨y, hyy⟩ : ∃ y, mvR D a k (k + 1) = y := ⟨_, rfl⟩
          rw [hxx] at c0 HSW
          rw [hyy] at c1 HSW
          obtain ⟨p, hp⟩ : ∃ p, k + 1 = p := ⟨_, rfl⟩
          rw [hp] at c1 f1 HSW
          have HP := Lib.hid hp
          have e2 : IntKind.i64.wrap ((k : Int) + 1) = (p : Int) := (IntWalk.i64_in _ (by omega)).trans (by omega)
          have l0 : (k : Int) < n := by omega
          have l1 : (p : Int) < n := by omega
          have n1 : k ≠ p := by omega
          have n2 : p ≠ k := by omega
          have hak : a ≤ p := by omega
          have hpz : p ≤ z := by omega
          have HGG := Lib.hid hg
          have d0 : decide ((k : Int) < z) = true := decide_eq_true (by omega)
          clear hr hg hxx hyy hp
          go_upto_region 11 with (fail)
          go_region
          go_wp2
          go_roundw
          case rel => exact ⟨p, rfl, hak, hpz, HSW.out, by first | exact ((HGG.out.set k _).set p _).drew | exact (HGG.out.set k _).set p _⟩
          case measure => have := HP.out; simp [intOf]; omega
        · obtain rfl : k = z := by omega
          have HGG := Lib.hid hg
          have HR2 := Lib.hid hr
          clear hg hr
          go_wp2
          first | go_ret | go_end0 | refine bodyPost_ret (results_none rfl _ _ _) rfl ?_
          exact ⟨rfl, ⟨_, HR2.out, HST.out⟩, HGG.out⟩
set_option maxRecDepth 100000 in
set_option maxHeartbeats 4000000 in
theorem symLast_at {lt : Nat → Nat → Prop} {cf : Nat → Nat → Int} (gf : Nat) (lb : Array Value) (eg : ∀ args w, (callFunc gf args).run Try.prog w = .ok (.enter gf args) w) (B : Hid (Bef lt cf)) (base g n c a m b : Nat) (D : Nat → Nat) (w : World)
    (HR : Hid (Rd w base g n c D)) (HC : Hid (Cmps gf lb cf n w g)) (hn : n ≤ 1000000) (h2 : b ≤ n) (HT : Hid (Two lt a m (m + 1) D)) (hm : b = m + 1) (hma : m ≠ a + 1) (HE : Hid (∀ k, a ≤ k → k < b → D k < n)) :
    Calls Try.prog 45 #[.slice (some ⟨g, 0, none⟩) n c, .int .i64 (a : Int), .int .i64 (m : Int), .int .i64 (b : Int), .func (.func gf) #[] lb] w fun e w' => e = .returned (.tuple #[]) ∧ (∃ E, Rd w' base g n c E ∧ Mg lt a b D E) ∧ Gr w w' g := by
  have ham : a < m := HT.out.am
  have e0 : IntKind.i64.wrap ((m : Int) - a) = ((m - a : Nat) : Int) := (IntWalk.i64_in _ (by omega)).trans (by omega)
  obtain ⟨u, hu⟩ : ∃ u, m - a = u := ⟨_, rfl⟩
  rw [hu] at e0
  have e1 : ((u : Int) == 1) = false := by simp; omega
  have e2 : IntKind.i64.wrap ((b : Int) - m) = 1 := (IntWalk.i64_in _ (by omega)).trans (by omega)
  have HM := Lib.hid hm
  have hu1 : u ≠ 1 := by omega
  have hmb : m < b := by omega
  rw [hm] at HE ⊢
  rw [← hm]
  clear hm hu hma
  go_enter Try.func45, Try.ntmps45
  go_wp2
  go_loopw [14, 15, 16] (fun x y _ wr => ∃ i j : Nat, x = .int .i64 (i : Int) ∧ y = .int .i64 (j : Int) ∧ OneL lt a m i j D ∧ Rd wr base g n c D ∧ Gr w wr g) (fun x y _ _ => (intOf y).toNat - (intOf x).toNat)
  case atStart => exact ⟨a, m, rfl, rfl, oneL_start (by omega), HR.out, Gr.refl _ _⟩
  case round =>
    obtain ⟨i, j, rfl, rfl, hone, hr, hg⟩ := hrel
    have hi0 := hone.i0
    have hjb := hone.jm
    have hle := hone.ij
    have HO := Lib.hid hone
    have HRR := Lib.hid hr
    have HG := Lib.hid hg
    by_cases hij : i < j
    · obtain ⟨q1, q2, q3, q4⟩ := hone.mid hij
      obtain ⟨s, h, hh, k1, k2, k3, k4⟩ := half_facts (i := i) (j := j) (by omega)
      have HH := Lib.hid hh
      rw [hh] at q1 q2 q3 q4
      obtain ⟨c0, f0⟩ := hr.at (i := m) (by omega)
      obtain ⟨c1, f1⟩ := hr.at (i := h) (by omega)
      have hx := HE.out m (by omega) (by omega)
      have hy := HE.out h (by omega) (by omega)
      obtain ⟨v, hv⟩ : ∃ v, cf (D m) (D h) = v := ⟨_, rfl⟩
      have HCC := Lib.hid (HC.out.at hg hx hy hv)
      have HV := Lib.hid hv
      obtain ⟨x, hxx⟩ : ∃ x, D m = x := ⟨_, rfl⟩
      obtain ⟨y, hyy⟩ : ∃ y, D h = y := ⟨_, rfl⟩
      rw [hxx] at c0 HCC
      rw [hyy] at c1 HCC
      have l0 : (h : Int) < n := by omega
      have l1 : (m : Int) < n := by omega
      have k5 : IntKind.i64.wrap ((h : Int) + 1) = ((h + 1 : Nat) : Int) := (IntWalk.i64_in _ (by omega)).trans (by omega)
      have d0 : decide ((i : Int) < j) = true := decide_eq_true (by omega)
      clear hone hr hg hx hy hv hxx hyy hh hle hi0 hjb
      go_upto_region 17 with (fail)
      go_quiet ((go_at_fn gf; exact Calls.quiet_of (HCC.out _)))
      by_cases hv0 : v < 0
      · have dv : decide (v < 0) = true := decide_eq_true hv0
        have dn : (!decide (v < 0)) = false := by rw [dv]; rfl
        have HO2 := Lib.hid (HO.out.down B.out HT.out hij (by rw [HH.out, HV.out]; exact hv0))
        rw [HH.out] at HO2
        rw [dn]
        go_wp2
        go_roundw
        case rel => exact ⟨i, h, rfl, rfl, HO2.out, HRR.out, HG.out.drewN _⟩
        case measure => simp [intOf]; omega
      · have dv : decide (v < 0) = false := decide_eq_false hv0
        have dn : (!decide (v < 0)) = true := by rw [dv]; rfl
        have HO2 := Lib.hid (HO.out.up B.out HT.out hij (by rw [HH.out, HV.out]; exact hv0))
        rw [HH.out] at HO2
        rw [dn]
        go_wp2
        go_roundw
        case rel => exact ⟨h + 1, j, rfl, rfl, HO2.out, HRR.out, HG.out.drewN _⟩
        case measure => simp [intOf]; omega
    · obtain rfl : i = j := by omega
      have HST := Lib.hid (hone.stop HT.out)
      clear hone hr hg hij hle
      generalize wr = wz at *
      go_wp2
      go_loopw [17] (fun x wr => ∃ k : Nat, x = .int .i64 (k : Int) ∧ i ≤ k ∧ k ≤ m ∧ Rd wr base g n c (mvL D m k) ∧ Gr w wr g) (fun x _ => (intOf x).toNat)
      case atStart => exact ⟨m, rfl, hjb, Nat.le_refl _, by rw [mvL_start]; exact HRR.out, HG.out⟩
      case round =>
        obtain ⟨k, rfl, hk0, hk1, hr, hg⟩ := hrel
        by_cases hkz : i < k
        · obtain ⟨p, hp⟩ : ∃ p, k = p + 1 := ⟨k - 1, by omega⟩
          obtain ⟨c0, f0⟩ := hr.at (i := k) (by omega)
          obtain ⟨c1, f1⟩ := hr.at (i := p) (by omega)
          have HSW := Lib.hid (hr.swap k p)
          rw [show swp (mvL D m k) k p = mvL D m p by rw [hp]; exact mvL_step (by omega)] at HSW
          obtain ⟨x, hxx⟩ : ∃ x, mvL D m k k = x := ⟨_, rfl⟩
          obtain ⟨y, hyy⟩ : ∃ y, mvL D m k p = y := ⟨_, rfl⟩
          rw [hxx] at c0 HSW
          rw [hyy] at c1 HSW
          have HP := Lib.hid hp
          have e3 : IntKind.i64.wrap ((k : Int) - 1) = (p : Int) := (IntWalk.i64_in _ (by omega)).trans (by omega)
          have l0 : (k : Int) < n := by omega
          have l1 : (p : Int) < n := by omega
          have n1 : k ≠ p := by omega
          have n2 : p ≠ k := by omega
          have hip : i ≤ p := by omega
          have hpm : p ≤ m := by omega
          have HGG := Lib.hid hg
          have d0 : decide ((i : Int) < k) = true := decide_eq_true (by omega)
          clear hr hg hxx hyy hp
          go_upto_region 23 with (fail)
          go_region
          go_wp2
          go_roundw
          case rel => exact ⟨p, rfl, hip, hpm, HSW.out, by first | exact ((HGG.out.set k _).set p _).drew | exact (HGG.out.set k _).set p _⟩
          case measure => have := HP.out; simp [intOf]; omega
        · obtain rfl : i = k := by omega
          have HGG := Lib.hid hg
          have HR2 := Lib.hid hr
          clear hg hr
          go_wp2
          first | go_ret | go_end0 | refine bodyPost_ret (results_none rfl _ _ _) rfl ?_
          exact ⟨rfl, ⟨_, HR2.out, by rw [HM.out]; exact HST.out⟩, HGG.out⟩
end Go.Proofs.Ytmliajkbknjacaa.StaW
