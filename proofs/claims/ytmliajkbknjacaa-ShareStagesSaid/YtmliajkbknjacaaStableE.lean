/-
  Walk of the library's stableCmpFunc and SortStableFunc at []int, for whatever comparison that only reads. Condition: none.
-/
import Derived.Test.YtmliajkbknjacaaStableD
namespace Go.Proofs.Ytmliajkbknjacaa.StaW
open Go.ChangeShapes Go.WideShapes Go.ChangeAt Go.RowKit
open PairW CelW StaP
attribute [local go_sem ↓] Go.wp_at_zero Go.wp_at_succ
theorem dv_two {s a x : Nat} (h1 : s ∣ a) (h2 : s ∣ x) (h3 : a < x) (h4 : x < a + 2 * s) : x = a + s := by
  obtain ⟨p, rfl⟩ := h1
  obtain ⟨q, rfl⟩ := h2
  have h5 : p < q := Nat.lt_of_mul_lt_mul_left h3
  have h6 : q < p + 2 := by
    refine Nat.lt_of_mul_lt_mul_left (a := s) ?_
    rw [Nat.mul_add]
    omega
  obtain rfl : q = p + 1 := by omega
  rw [Nat.mul_add, Nat.mul_one]
theorem dv_one {s a x : Nat} (h1 : s ∣ a) (h2 : s ∣ x) (h3 : a < x) : a + s ≤ x := by
  obtain ⟨p, rfl⟩ := h1
  obtain ⟨q, rfl⟩ := h2
  have h5 : p < q := Nat.lt_of_mul_lt_mul_left h3
  have : s * (p + 1) ≤ s * q := Nat.mul_le_mul_left _ h5
  rw [Nat.mul_add, Nat.mul_one] at this
  exact this
theorem dv_half {s x : Nat} (h : 2 * s ∣ x) : s ∣ x := Nat.dvd_trans (Nat.dvd_mul_left s 2) h
/-- Boundaries: of twice the size up to a, of the size behind. -/
def Wb (s a : Nat) (x : Nat) : Prop := (x ≤ a ∧ 2 * s ∣ x) ∨ (a < x ∧ s ∣ x)
theorem wb_start {s x : Nat} : s ∣ x ∧ (0 < x ∨ x = 0) ↔ Wb s 0 x := by
  unfold Wb
  constructor
  · rintro ⟨h1, h2 | h2⟩
    · exact .inr ⟨h2, h1⟩
    · exact .inl ⟨by omega, by rw [h2]; exact Nat.dvd_zero _⟩
  · rintro (⟨h1, h2⟩ | ⟨h1, h2⟩)
    · exact ⟨dv_half h2, by omega⟩
    · exact ⟨h2, .inl h1⟩
theorem wb_two {s a x : Nat} (ha : 2 * s ∣ a) (h1 : a < x) (h2 : x < a + 2 * s) (h3 : x ≠ a + s) : ¬ Wb s a x := by
  rintro (⟨g1, g2⟩ | ⟨g1, g2⟩)
  · omega
  · exact h3 (dv_two (dv_half ha) g2 h1 h2)
theorem wb_next {s a x : Nat} (ha : 2 * s ∣ a) : (Wb s a x ∧ ¬ (a < x ∧ x < a + 2 * s)) ↔ Wb s (a + 2 * s) x := by
  have hb : 2 * s ∣ a + 2 * s := Nat.dvd_add ha (Nat.dvd_refl _)
  unfold Wb
  constructor
  · rintro ⟨⟨g1, g2⟩ | ⟨g1, g2⟩, g3⟩
    · exact .inl ⟨by omega, g2⟩
    · by_cases e : x = a + 2 * s
      · exact .inl ⟨by omega, by rw [e]; exact hb⟩
      · exact .inr ⟨by omega, g2⟩
  · rintro (⟨g1, g2⟩ | ⟨g1, g2⟩)
    · by_cases e : x ≤ a
      · exact ⟨.inl ⟨e, g2⟩, by omega⟩
      · have := dv_one ha g2 (by omega)
        exact ⟨.inr ⟨by omega, dv_half g2⟩, by omega⟩
    · exact ⟨.inr ⟨by omega, g2⟩, by omega⟩
theorem wb_last {s a n x : Nat} (ha : 2 * s ∣ a) (hn : n < a + 2 * s) (hx : x < n) : (Wb s a x ∧ ¬ (a < x ∧ x < n)) ↔ 2 * s ∣ x := by
  unfold Wb
  constructor
  · rintro ⟨⟨g1, g2⟩ | ⟨g1, g2⟩, g3⟩
    · exact g2
    · omega
  · intro g
    by_cases e : x ≤ a
    · exact ⟨.inl ⟨e, g⟩, by omega⟩
    · have := dv_one ha g (by omega)
      omega
theorem wb_none {s a n x : Nat} (ha : 2 * s ∣ a) (hn : n ≤ a + s) (hx : x < n) : Wb s a x ↔ 2 * s ∣ x := by
  unfold Wb
  constructor
  · rintro (⟨g1, g2⟩ | ⟨g1, g2⟩)
    · exact g2
    · have := dv_one (dv_half ha) g2 g1
      omega
  · intro g
    by_cases e : x ≤ a
    · exact .inl ⟨e, g⟩
    · have := dv_one (dv_half ha) (dv_half g) (by omega)
      omega
set_option maxRecDepth 100000 in
set_option maxHeartbeats 4000000 in
theorem stable_at {lt : Nat → Nat → Prop} {cf : Nat → Nat → Int} (gf : Nat) (lb : Array Value) (eg : ∀ args w, (callFunc gf args).run Try.prog w = .ok (.enter gf args) w) (B : Hid (Bef lt cf)) (base g n c : Nat) (D : Nat → Nat) (w : World)
    (HR : Hid (Rd w base g n c D)) (HC : Hid (Cmps gf lb cf n w g)) (hn : n ≤ 1000000) (HD : Hid (∀ p q, p < q → q < n → D p < D q)) (HE : Hid (∀ k, 0 ≤ k → k < n → D k < n)) :
    Calls Try.prog 40 #[.slice (some ⟨g, 0, none⟩) n c, .int .i64 (n : Int), .func (.func gf) #[] lb] w fun e w' => e = .returned (.tuple #[]) ∧ (∃ E, Rd w' base g n c E ∧ Mg lt 0 n D E) ∧ Gr w w' g := by
  have HINS := Lib.hid (fun (a b : Nat) (E : Nat → Nat) (w' : World) (q1 : Rd w' base g n c E) (q2 : Gr w w' g) (q3 : a ≤ b) (q4 : b ≤ n) (q5 : ∀ p q, a ≤ p → p < q → q < b → E p < E q) (q6 : ∀ k, a ≤ k → k < b → E k < n) => insertion_at gf lb eg B base g n c a b E w' (Lib.hid q1) (Lib.hid (HC.out.next q2)) hn q3 q4 (Lib.hid q5) (Lib.hid q6))
  have HMER := Lib.hid (fun (a m b : Nat) (E : Nat → Nat) (w' : World) (q1 : Rd w' base g n c E) (q2 : Gr w w' g) (q3 : Two lt a m b E) (q4 : b ≤ n) (q5 : ∀ k, a ≤ k → k < b → E k < n) => symMerge_at gf lb eg B.out base g n c w HC.out hn (b - a) a m b E w' rfl q3 q4 q5 q1 q2)
  unfold Merges at HMER
  go_enter Try.func40, Try.ntmps40
  go_wp2
  go_loopw [7, 8] (fun x y wr => ∃ (a : Nat) (E : Nat → Nat), x = .int .i64 (a : Int) ∧ y = .int .i64 ((a + 20 : Nat) : Int) ∧ a ≤ n ∧ 20 ∣ a ∧ Inv lt n (fun z => a ≤ z ∨ 20 ∣ z) E ∧ Rd wr base g n c E ∧ Rch 0 n D E ∧ Gr w wr g) (fun x _ _ => n - (intOf x).toNat)
  case atStart => exact ⟨0, D, rfl, rfl, Nat.zero_le _, Nat.dvd_zero _, (inv_start HD.out).congr fun x _ => ⟨fun _ => .inl (Nat.zero_le _), fun _ => trivial⟩, HR.out, .refl, Gr.refl _ _⟩
  case round =>
    obtain ⟨a, E, rfl, rfl, han, h20, hinv, hr, hch, hg⟩ := hrel
    have hlow : ∀ b, b ≤ n → ∀ p q, a ≤ p → p < q → q < b → E p < E q := fun b hb p q h1 h2 h3 => hinv.cr p q h2 (by omega) ⟨q, h2, Nat.le_refl _, .inl (by omega)⟩
    have hEn : ∀ k, 0 ≤ k → k < n → E k < n := hch.all (P := fun x => x < n) HE.out
    have hmk : ∀ F, Mg lt a (a + 20) E F → a + 20 ≤ n → Inv lt n (fun z => a + 20 ≤ z ∨ 20 ∣ z) F := fun F h1 h2 => (hinv.sorted h1 h2 (.inr (.inl (Nat.le_refl _))) (.inr (.inl (by omega)))).congr fun x hx => by omega
    have hmk2 : ∀ F, Mg lt a n E F → n < a + 20 → Inv lt n (fun z => 20 ∣ z) F := fun F h1 h2 => (hinv.sorted h1 (Nat.le_refl _) (.inr (.inl (Nat.le_refl _))) (.inl rfl)).congr fun x hx => by omega
    obtain ⟨b, hb⟩ : ∃ b, a + 20 = b := ⟨_, rfl⟩
    rw [hb] at hmk hmk2
    rw [hb]
    have e1 : IntKind.i64.wrap ((b : Int) + 20) = ((b + 20 : Nat) : Int) := (IntWalk.i64_in _ (by omega)).trans (by omega)
    have HB := Lib.hid hb
    have H20 := Lib.hid h20
    have HMK := Lib.hid hmk
    have HMK2 := Lib.hid hmk2
    have HCH := Lib.hid hch
    have HG := Lib.hid hg
    by_cases hbn : b ≤ n
    · have hcall := HINS.out a b E wr hr hg (by omega) hbn (hlow b hbn) (fun k _ k2 => hEn k (Nat.zero_le _) (by omega))
      have HCALL := Lib.hid hcall
      clear hinv hr hch hg hlow hEn hmk hmk2 hb h20 hcall
      go_wp2_with (go_at_call 44; refine HCALL.out.mono ?_; rintro e w2 ⟨rfl, hr2, hg2⟩; have HX := Lib.hid hr2; have HZ := Lib.hid hg2; clear hr2 hg2)
      go_roundw
      case rel =>
        obtain ⟨F, f1, f2⟩ := HX.out
        have := HB.out
        have := H20.out
        exact ⟨b, F, rfl, rfl, hbn, by omega, HMK.out F f2 hbn, f1, HCH.out.trans (f2.rch.mono (Nat.zero_le _) hbn), HG.out.trans HZ.out⟩
      case measure => have := HB.out; simp [intOf]; omega
    · have hcall := HINS.out a n E wr hr hg han (Nat.le_refl _) (hlow n (Nat.le_refl _)) (fun k _ k2 => hEn k (Nat.zero_le _) (by omega))
      have HCALL := Lib.hid hcall
      have hbn2 : n < b := by omega
      clear hinv hr hch hg hlow hEn hmk hmk2 hb h20 hcall HMK H20
      go_wp2_with (go_at_call 44; refine HCALL.out.mono ?_; rintro e w2 ⟨rfl, hr2, hg2⟩; have HX := Lib.hid hr2; have HZ := Lib.hid hg2; clear hr2 hg2)
      have HW := Lib.hid (show ∃ F, Rd w2 base g n c F ∧ Rch 0 n D F ∧ Inv lt n (fun z => 20 ∣ z) F from by
        obtain ⟨F, f1, f2⟩ := HX.out
        exact ⟨F, f1, HCH.out.trans (f2.rch.mono (Nat.zero_le _) (Nat.le_refl _)), HMK2.out F f2 hbn2⟩)
      have HGG := Lib.hid (HG.out.trans HZ.out)
      clear HX HZ HG HCH HMK2 hbn hbn2 HB e1 han HCALL
      go_loopw [6, 7, 8, 9] (fun x _ _ _ wr => ∃ (s : Nat) (E : Nat → Nat), x = .int .i64 (s : Int) ∧ 0 < s ∧ s ≤ 2000020 ∧ Inv lt n (fun z => s ∣ z) E ∧ Rd wr base g n c E ∧ Rch 0 n D E ∧ Gr w wr g) (fun x _ _ _ _ => n - (intOf x).toNat)
      case atStart =>
        obtain ⟨F, f1, f2, f3⟩ := HW.out
        exact ⟨20, F, rfl, by omega, by omega, f3, f1, f2, HGG.out⟩
      case round =>
        obtain ⟨s, E1, rfl, hs0, hs1, hinv, hr, hch, hg⟩ := hrel
        have HI := Lib.hid hinv
        have HRR := Lib.hid hr
        have HCH := Lib.hid hch
        have HG := Lib.hid hg
        clear hinv hr hch hg HW HGG
        by_cases hsn : s < n
        · obtain ⟨s2, hs2⟩ : ∃ s2, 2 * s = s2 := ⟨_, rfl⟩
          have e2 : IntKind.i64.wrap (2 * (s : Int)) = (s2 : Int) := (IntWalk.i64_in _ (by omega)).trans (by omega)
          have e3 : IntKind.i64.wrap ((s : Int) * 2) = (s2 : Int) := (IntWalk.i64_in _ (by omega)).trans (by omega)
          have HS2 := Lib.hid hs2
          clear hs2
          generalize wr = wz at *
          go_wp2
          go_loopw [7, 8] (fun x y wr => ∃ (a : Nat) (E : Nat → Nat), x = .int .i64 (a : Int) ∧ y = .int .i64 ((a + s2 : Nat) : Int) ∧ a ≤ n ∧ s2 ∣ a ∧ Inv lt n (Wb s a) E ∧ Rd wr base g n c E ∧ Rch 0 n D E ∧ Gr w wr g) (fun x _ _ => n - (intOf x).toNat)
          case atStart => exact ⟨0, E1, rfl, by simp, Nat.zero_le _, Nat.dvd_zero _, HI.out.congr fun x _ => by rw [← wb_start]; exact ⟨fun h => ⟨h, by omega⟩, fun h => h.1⟩, HRR.out, HCH.out, HG.out⟩
          case round =>
            obtain ⟨a2, E, rfl, rfl, han, hdv, hinv, hr, hch, hg⟩ := hrel
            have hEn : ∀ k, 0 ≤ k → k < n → E k < n := hch.all (P := fun x => x < n) HE.out
            have hs2 := HS2.out
            obtain ⟨b2, hb⟩ : ∃ b, a2 + s2 = b := ⟨_, rfl⟩
            obtain ⟨m2, hm⟩ : ∃ b, a2 + s = b := ⟨_, rfl⟩
            rw [hb]
            have e4 : IntKind.i64.wrap ((b2 : Int) + s2) = ((b2 + s2 : Nat) : Int) := (IntWalk.i64_in _ (by omega)).trans (by omega)
            have e5 : IntKind.i64.wrap ((a2 : Int) + s) = (m2 : Int) := (IntWalk.i64_in _ (by omega)).trans (by omega)
            have hdv2 : 2 * s ∣ a2 := by rw [hs2]; exact hdv
            have HCH2 := Lib.hid hch
            have HG2 := Lib.hid hg
            have HB2 := Lib.hid hb
            have HDV := Lib.hid hdv
            have hE0 : a2 = 0 ∨ Wb s a2 a2 := .inr (.inl ⟨Nat.le_refl _, hdv2⟩)
            by_cases hbn : b2 ≤ n
            · have htwo : Two lt a2 m2 b2 E := hinv.two (by omega) (by omega) hbn (.inr ⟨by omega, by rw [← hm]; exact Nat.dvd_add (dv_half hdv2) (Nat.dvd_refl _)⟩) (fun x h1 h2 h3 => wb_two hdv2 h1 (by omega) (by omega))
              have hcall := HMER.out a2 m2 b2 E wr hr hg htwo hbn (fun k _ k2 => hEn k (Nat.zero_le _) (by omega))
              have hmk : ∀ F, Mg lt a2 b2 E F → Inv lt n (Wb s b2) F := fun F h1 => (hinv.sorted h1 hbn hE0 (.inr (.inr ⟨by omega, by rw [← hb, ← hs2]; exact Nat.dvd_add (dv_half hdv2) (Nat.dvd_mul_left s 2)⟩))).congr fun x _ => by rw [show b2 = a2 + 2 * s by omega]; exact wb_next hdv2
              have HMK := Lib.hid hmk
              have HCALL := Lib.hid hcall
              clear hinv hr hch hg hEn hs2 hb hm hdv hdv2 htwo hcall hmk hE0
              go_wp2_with (go_at_call 45; refine HCALL.out.mono ?_; rintro e w3 ⟨rfl, hr2, hg2⟩; have HX := Lib.hid hr2; have HZ := Lib.hid hg2; clear hr2 hg2)
              go_roundw
              case rel =>
                obtain ⟨F, f1, f2⟩ := HX.out
                exact ⟨b2, F, rfl, rfl, hbn, by rw [← HB2.out]; exact Nat.dvd_add HDV.out (Nat.dvd_refl _), HMK.out F f2, f1, HCH2.out.trans (f2.rch.mono (Nat.zero_le _) hbn), HG2.out.trans HZ.out⟩
              case measure => have := HB2.out; have := HS2.out; simp [intOf]; omega
            · have hbn2 : n < b2 := by omega
              by_cases hmn : m2 < n
              · have htwo : Two lt a2 m2 n E := hinv.two (by omega) hmn (Nat.le_refl _) (.inr ⟨by omega, by rw [← hm]; exact Nat.dvd_add (dv_half hdv2) (Nat.dvd_refl _)⟩) (fun x h1 h2 h3 => wb_two hdv2 h1 (by omega) (by omega))
                have hcall := HMER.out a2 m2 n E wr hr hg htwo (Nat.le_refl _) (fun k _ k2 => hEn k (Nat.zero_le _) (by omega))
                have hmk : ∀ F, Mg lt a2 n E F → Inv lt n (fun z => s2 ∣ z) F := fun F h1 => (hinv.sorted h1 (Nat.le_refl _) hE0 (.inl rfl)).congr fun x hx => by rw [← hs2]; exact wb_last hdv2 (by omega) hx
                have HMK := Lib.hid hmk
                have HCALL := Lib.hid hcall
                clear hinv hr hch hg hEn hs2 hb hm hdv hdv2 htwo hcall hmk hE0
                go_wp2_with (go_at_call 45; refine HCALL.out.mono ?_; rintro e w3 ⟨rfl, hr2, hg2⟩; have HX := Lib.hid hr2; have HZ := Lib.hid hg2; clear hr2 hg2)
                go_roundw
                case rel =>
                  obtain ⟨F, f1, f2⟩ := HX.out
                  have := HS2.out
                  exact ⟨s2, F, rfl, by omega, by omega, HMK.out F f2, f1, HCH2.out.trans (f2.rch.mono (Nat.zero_le _) (Nat.le_refl _)), HG2.out.trans HZ.out⟩
                case measure => have := HS2.out; simp [intOf]; omega
              · have hmk : Inv lt n (fun z => s2 ∣ z) E := hinv.congr fun x hx => by rw [← hs2]; exact wb_none hdv2 (by omega) hx
                have HMK := Lib.hid hmk
                have HR2 := Lib.hid hr
                clear hinv hr hch hg hEn hs2 hb hm hdv hdv2 hmk hE0
                go_wp2
                go_roundw
                case rel =>
                  have := HS2.out
                  exact ⟨s2, E, rfl, by omega, by omega, HMK.out, HR2.out, HCH2.out, HG2.out⟩
                case measure => have := HS2.out; simp [intOf]; omega
        · go_wp2
          go_end0
          refine ⟨rfl, ⟨E1, HRR.out, HCH.out, HI.out.all fun x h1 h2 h3 => ?_⟩, HG.out⟩
          have := Nat.le_of_dvd h1 h3
          omega
set_option maxRecDepth 100000 in
theorem sortStable_at {lt : Nat → Nat → Prop} {cf : Nat → Nat → Int} (gf : Nat) (lb : Array Value) (eg : ∀ args w, (callFunc gf args).run Try.prog w = .ok (.enter gf args) w) (B : Hid (Bef lt cf)) (base g n c : Nat) (D : Nat → Nat) (w : World)
    (HR : Hid (Rd w base g n c D)) (HC : Hid (Cmps gf lb cf n w g)) (hn : n ≤ 1000000) (HD : Hid (∀ p q, p < q → q < n → D p < D q)) (HE : Hid (∀ k, 0 ≤ k → k < n → D k < n)) :
    Calls Try.prog 31 #[.slice (some ⟨g, 0, none⟩) n c, .func (.func gf) #[] lb] w fun e w' => e = .returned (.tuple #[]) ∧ (∃ E, Rd w' base g n c E ∧ Mg lt 0 n D E) ∧ Gr w w' g := by
  have HCALL := Lib.hid (stable_at gf lb eg B base g n c D w HR HC hn HD HE)
  go_enter Try.func31, Try.ntmps31
  go_wp2_with (go_at_call 40; refine HCALL.out.mono ?_; rintro e w2 ⟨rfl, hr2, hg2⟩)
  go_end0
  exact ⟨rfl, hr2, hg2⟩
end Go.Proofs.Ytmliajkbknjacaa.StaW
