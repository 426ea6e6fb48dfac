/-
  Walk of the library's symMergeCmpFunc at []int, for whatever comparison that only reads. Condition: none.
-/
import Derived.Test.YtmliajkbknjacaaStableC
namespace Go.Proofs.Ytmliajkbknjacaa.StaW
open Go.ChangeShapes Go.WideShapes Go.ChangeAt Go.RowKit
open PairW CelW StaP
attribute [local go_sem ↓] Go.wp_at_zero Go.wp_at_succ
/-- What the merging says. -/
def Merges (lt : Nat → Nat → Prop) (gf : Nat) (lb : Array Value) (base g n c a m b : Nat) (D : Nat → Nat) (w : World) : Prop :=
  Calls Try.prog 45 #[.slice (some ⟨g, 0, none⟩) n c, .int .i64 (a : Int), .int .i64 (m : Int), .int .i64 (b : Int), .func (.func gf) #[] lb] w fun e w' => e = .returned (.tuple #[]) ∧ (∃ E, Rd w' base g n c E ∧ Mg lt a b D E) ∧ Gr w w' g
set_option maxRecDepth 100000 in
set_option maxHeartbeats 4000000 in
theorem symMany_at {lt : Nat → Nat → Prop} {cf : Nat → Nat → Int} (gf : Nat) (lb : Array Value) (eg : ∀ args w, (callFunc gf args).run Try.prog w = .ok (.enter gf args) w) (B : Hid (Bef lt cf)) (base g n c a m b : Nat) (D : Nat → Nat) (w : World)
    (HR : Hid (Rd w base g n c D)) (HC : Hid (Cmps gf lb cf n w g)) (hn : n ≤ 1000000) (h2 : b ≤ n) (HT : Hid (Two lt a m b D)) (hma : m ≠ a + 1) (hmb : b ≠ m + 1) (HE : Hid (∀ k, a ≤ k → k < b → D k < n))
    (IH : Hid (∀ (a' m' b' : Nat) (D' : Nat → Nat) (w' : World), b' - a' < b - a → Two lt a' m' b' D' → b' ≤ n → (∀ k, a' ≤ k → k < b' → D' k < n) → Rd w' base g n c D' → Gr w w' g → Merges lt gf lb base g n c a' m' b' D' w')) :
    Merges lt gf lb base g n c a m b D w := by
  unfold Merges
  have ham : a < m := HT.out.am
  have hmb0 : m < b := HT.out.mb
  obtain ⟨u, hu⟩ : ∃ u, m - a = u := ⟨_, rfl⟩
  obtain ⟨v, hv⟩ : ∃ v, b - m = v := ⟨_, rfl⟩
  have e0 : IntKind.i64.wrap ((m : Int) - a) = (u : Int) := (IntWalk.i64_in _ (by omega)).trans (by omega)
  have e1 : IntKind.i64.wrap ((b : Int) - m) = (v : Int) := (IntWalk.i64_in _ (by omega)).trans (by omega)
  have hu1 : u ≠ 1 := by omega
  have hv1 : v ≠ 1 := by omega
  have d0 : ((u : Int) == 1) = false := by simp; omega
  have d1 : ((v : Int) == 1) = false := by simp; omega
  obtain ⟨s, mid, hmid, k1, k2, k3, k4⟩ := half_facts (i := a) (j := b) (by omega)
  obtain ⟨N, hN⟩ : ∃ N, mid + m = N := ⟨_, rfl⟩
  have e2 : IntKind.i64.wrap ((mid : Int) + m) = (N : Int) := (IntWalk.i64_in _ (by omega)).trans (by omega)
  have e4 : IntKind.i64.wrap ((N : Int) - 1) = ((N - 1 : Nat) : Int) := (IntWalk.i64_in _ (by omega)).trans (by omega)
  obtain ⟨N1, hN1⟩ : ∃ N1, N - 1 = N1 := ⟨_, rfl⟩
  rw [hN1] at e4
  have HN1 := Lib.hid hN1
  obtain ⟨lo, hi, hlo⟩ : ∃ lo hi : Nat, ((a + b) / 2 < m ∧ lo = N - b ∧ hi = (a + b) / 2) ∨ (m ≤ (a + b) / 2 ∧ lo = a ∧ hi = m) := by
    by_cases z : (a + b) / 2 < m
    · exact ⟨_, _, .inl ⟨z, rfl, rfl⟩⟩
    · exact ⟨_, _, .inr ⟨by omega, rfl, rfl⟩⟩
  have hst : Cut lt a m b N lo hi lo hi D := ⟨by omega, hlo, Nat.le_refl _, by omega, Nat.le_refl _, fun h => by omega, fun h => by omega⟩
  have HCUT := Lib.hid hst
  have HMID := Lib.hid hmid
  have HNN := Lib.hid hN
  rw [hmid] at hlo
  have hb1 : a < mid ∧ mid < b := by omega
  clear hst hu hv hmid hN hma hmb hN1
  go_enter Try.func45, Try.ntmps45
  go_upto_if 140 with (fail)
  go_cut [20, 21] from 141 to 146 (fun s20 s21 wx => s20 = .int .i64 (lo : Int) ∧ s21 = .int .i64 (hi : Int) ∧ w = wx)
  case first =>
    rcases hlo with ⟨g1, rfl, rfl⟩ | ⟨g1, rfl, rfl⟩
    · have d2 : decide ((hi : Int) < m) = true := decide_eq_true (by omega)
      have e3 : IntKind.i64.wrap ((N : Int) - b) = ((N - b : Nat) : Int) := (IntWalk.i64_in _ (by have := HNN.out; have := HMID.out; omega)).trans (by have := HNN.out; have := HMID.out; omega)
      go_wp2
      go_meet
      exact ⟨rfl, rfl, rfl⟩
    · have d2 : decide ((mid : Int) < hi) = false := decide_eq_false (by omega)
      have d3 : ¬ mid < hi := by omega
      go_wp2
      go_meet
      exact ⟨rfl, rfl, rfl⟩
  case rest =>
    obtain ⟨rfl, rfl, rfl⟩ := hcut
    go_wp2
    go_loopw [20, 21, 23] (fun x y _ wr => ∃ s0 r0 : Nat, x = .int .i64 (s0 : Int) ∧ y = .int .i64 (r0 : Int) ∧ Cut lt a m b N lo hi s0 r0 D ∧ Rd wr base g n c D ∧ Gr w wr g) (fun x y _ _ => (intOf y).toNat - (intOf x).toNat)
    case atStart => exact ⟨lo, hi, rfl, rfl, HCUT.out, HR.out, Gr.refl _ _⟩
    case round =>
      obtain ⟨s0, r0, rfl, rfl, hcut, hr, hg⟩ := hrel
      have HO := Lib.hid hcut
      have HRR := Lib.hid hr
      have HG := Lib.hid hg
      by_cases hij : s0 < r0
      · obtain ⟨q1, q2, q3, q4, q5, q6⟩ := hcut.mid ham hmb0 hij
        obtain ⟨s1, h, hh, k5, k6, k7, k8⟩ := half_facts (i := s0) (j := r0) (by have := hcut.rh; have := hcut.lo0; omega)
        have HH := Lib.hid hh
        have hn1 := HN1.out
        rw [hh] at q1 q2 q3 q4 q5 q6
        obtain ⟨p, hp⟩ : ∃ p, N - 1 - h = p := ⟨_, rfl⟩
        have HP := Lib.hid hp
        rw [hp] at q3 q4
        obtain ⟨c0, f0⟩ := hr.at (i := p) (by omega)
        obtain ⟨c1, f1⟩ := hr.at (i := h) (by omega)
        have hx := HE.out p (by omega) (by omega)
        have hy := HE.out h (by omega) (by omega)
        obtain ⟨v, hv⟩ : ∃ v, cf (D p) (D h) = v := ⟨_, rfl⟩
        have HCC := Lib.hid (HC.out.at hg hx hy hv)
        have HV := Lib.hid hv
        obtain ⟨x, hxx⟩ : ∃ x, D p = x := ⟨_, rfl⟩
        obtain ⟨y, hyy⟩ : ∃ y, D h = y := ⟨_, rfl⟩
        rw [hxx] at c0 HCC
        rw [hyy] at c1 HCC
        have l0 : (p : Int) < n := by omega
        have l1 : (h : Int) < n := by omega
        have k9 : IntKind.i64.wrap ((h : Int) + 1) = ((h + 1 : Nat) : Int) := (IntWalk.i64_in _ (by omega)).trans (by omega)
        have k10 : IntKind.i64.wrap ((N1 : Int) - h) = (p : Int) := (IntWalk.i64_in _ (by omega)).trans (by omega)
        have d5 : decide ((s0 : Int) < r0) = true := decide_eq_true (by omega)
        have hrn : r0 - h ≤ r0 := Nat.sub_le _ _
        clear hcut hr hg hx hy hv hxx hyy hh hp hn1 hrn
        go_upto_region 35 with (fail)
        go_quiet ((go_at_fn gf; exact Calls.quiet_of (HCC.out _)))
        by_cases hv0 : v < 0
        · have dn : (!decide (v < 0)) = false := by rw [decide_eq_true hv0]; rfl
          have HO2 := Lib.hid (HO.out.down B.out HT.out hij (by rw [HH.out, HP.out, HV.out]; exact hv0))
          rw [HH.out] at HO2
          rw [dn]
          go_wp2
          go_roundw
          case rel => exact ⟨s0, h, rfl, rfl, HO2.out, HRR.out, HG.out.drewN _⟩
          case measure => simp [intOf]; omega
        · have dn : (!decide (v < 0)) = true := by rw [decide_eq_false hv0]; rfl
          have HO2 := Lib.hid (HO.out.up B.out HT.out hij (by rw [HH.out, HP.out, HV.out]; exact hv0))
          rw [HH.out] at HO2
          rw [dn]
          go_wp2
          go_roundw
          case rel => exact ⟨h + 1, r0, rfl, rfl, HO2.out, HRR.out, HG.out.drewN _⟩
          case measure => simp [intOf]; omega
      · obtain rfl : s0 = r0 := by have := hcut.sr; omega
        have hpl := hcut.stop ham hmb0
        have hsN : s0 ≤ N := by have := hpl.se; have := HNN.out; have := hpl.me; have := HMID.out; omega
        obtain ⟨e, he⟩ : ∃ e, N - s0 = e := ⟨_, rfl⟩
        rw [he] at hpl
        have e5 : IntKind.i64.wrap ((N : Int) - s0) = (e : Int) := (IntWalk.i64_in _ (by have := HNN.out; have := HMID.out; omega)).trans (by omega)
        have HPL := Lib.hid hpl
        have HBD := Lib.hid (show a ≤ s0 ∧ s0 ≤ m ∧ m ≤ e ∧ e ≤ b from ⟨hpl.a_s, hpl.sm, hpl.me, hpl.eb⟩)
        obtain ⟨t1, ht1⟩ : ∃ t, decide (s0 < m ∧ m < e) = t := ⟨_, rfl⟩
        obtain ⟨t2, ht2⟩ : ∃ t, decide (a < s0 ∧ s0 < mid) = t := ⟨_, rfl⟩
        obtain ⟨t3, ht3⟩ : ∃ t, decide (mid < e ∧ e < b) = t := ⟨_, rfl⟩
        have T1 := Lib.hid ht1
        have T2 := Lib.hid ht2
        have T3 := Lib.hid ht3
        clear ht1 ht2 ht3 hpl he hcut hr hg hij
        go_upto_region 39 with (fail)
        go_cut [185] from 178 to 185 (fun s wx => s = .bool t1 ∧ wr = wx)
        case first =>
          by_cases g1 : s0 < m
          · by_cases g2 : m < e
            · obtain rfl : t1 = true := by rw [← T1.out]; exact decide_eq_true ⟨g1, g2⟩
              go_wp2
              go_meet
              exact ⟨rfl, rfl⟩
            · obtain rfl : t1 = false := by rw [← T1.out]; exact decide_eq_false fun z => g2 z.2
              go_wp2
              go_meet
              exact ⟨rfl, rfl⟩
          · obtain rfl : t1 = false := by rw [← T1.out]; exact decide_eq_false fun z => g1 z.1
            go_wp2
            go_meet
            exact ⟨rfl, rfl⟩
        case rest =>
          obtain ⟨rfl, rfl⟩ := hcut
          go_upto_if 185 with (fail)
          go_cut [] from 186 to 191 (fun wx => Rd wx base g n c (rot D s0 m e) ∧ Rch a b D (rot D s0 m e) ∧ Gr w wx g)
          case first =>
            cases t1 with
            | true =>
              have h3 : s0 < m ∧ m < e := of_decide_eq_true T1.out
              have hb := HBD.out
              have hrot := fun w0 h => rotate_at (.func (.func gf) #[] lb) base g n c s0 m e D w0 h hn h3.1 h3.2 (by omega)
              have HROT := Lib.hid hrot
              clear h3 hb hrot
              go_wp2_with (go_at_call 46; refine (HROT.out _ HRR).mono ?_; rintro e w2 ⟨rfl, hr2, hc2, hg2⟩; have HX := Lib.hid hr2; have HY := Lib.hid hc2; have HZ := Lib.hid hg2; clear hr2 hc2 hg2)
              go_meet
              have hb := HBD.out
              exact ⟨HX.out, HY.out.mono hb.1 hb.2.2.2, HG.out.trans HZ.out⟩
            | false =>
              have h3 : ¬ (s0 < m ∧ m < e) := of_decide_eq_false T1.out
              have hb := HBD.out
              have hid : rot D s0 m e = D := rot_id (by omega)
              have HID := Lib.hid hid
              clear h3 hb hid
              go_wp2
              go_meet
              rw [HID.out]
              exact ⟨HRR.out, .refl, HG.out⟩
          case rest =>
            obtain ⟨hr, hch, hg⟩ := hcut
            have HR1 := Lib.hid hr
            have HC1 := Lib.hid hch
            have HG1 := Lib.hid hg
            have hEF := hch.all (P := fun x => x < n) HE.out
            have HEF := Lib.hid hEF
            clear hr hch hg hEF HRR HG
            have hmid := HMID.out
            have key1 : a < s0 ∧ s0 < mid → Two lt a s0 mid (rot D s0 m e) := fun h => by
              rw [← hmid] at h ⊢
              exact HPL.out.two1 HT.out h.1 h.2
            have key2 : ¬ (a < s0 ∧ s0 < mid) → Srt lt a mid (rot D s0 m e) := fun h => by
              rw [← hmid] at h ⊢
              exact HPL.out.srt1 HT.out h
            have key3 : mid < e ∧ e < b → Two lt mid e b (rot D s0 m e) := fun h => by
              rw [← hmid] at h ⊢
              exact HPL.out.two2 HT.out h.1 h.2
            have key4 : ¬ (mid < e ∧ e < b) → Srt lt mid b (rot D s0 m e) := fun h => by
              rw [← hmid] at h ⊢
              exact HPL.out.srt2 HT.out h
            have key5 : ∀ F G, Mg lt a mid (rot D s0 m e) F → Mg lt mid b F G → Mg lt a b D G := fun F G h1 h2 => by
              rw [← hmid] at h1 h2
              exact HPL.out.done HT.out B.out HC1.out h1 h2
            have K1 := Lib.hid key1
            have K2 := Lib.hid key2
            have K3 := Lib.hid key3
            have K4 := Lib.hid key4
            have K5 := Lib.hid key5
            clear key1 key2 key3 key4 key5 hmid HC1 HPL HBD HO
            obtain ⟨R, hRe⟩ : ∃ R, rot D s0 m e = R := ⟨_, rfl⟩
            rw [hRe] at HR1 HEF K1 K2 K3 K4 K5
            clear hRe
            go_upto_region 41 with (fail)
            go_cut [199] from 192 to 199 (fun s wy => s = .bool t2 ∧ wc = wy)
            case first =>
              by_cases g1 : a < s0
              · by_cases g2 : s0 < mid
                · obtain rfl : t2 = true := by rw [← T2.out]; exact decide_eq_true ⟨g1, g2⟩
                  go_wp2
                  go_meet
                  exact ⟨rfl, rfl⟩
                · obtain rfl : t2 = false := by rw [← T2.out]; exact decide_eq_false fun z => g2 z.2
                  go_wp2
                  go_meet
                  exact ⟨rfl, rfl⟩
              · obtain rfl : t2 = false := by rw [← T2.out]; exact decide_eq_false fun z => g1 z.1
                go_wp2
                go_meet
                exact ⟨rfl, rfl⟩
            case rest =>
              obtain ⟨rfl, rfl⟩ := hcut
              go_upto_if 199 with (fail)
              go_cut [] from 200 to 205 (fun wy => ∃ F, Rd wy base g n c F ∧ Mg lt a mid R F ∧ Gr w wy g)
              case first =>
                cases t2 with
                | true =>
                  have h3 : a < s0 ∧ s0 < mid := of_decide_eq_true T2.out
                  have hcall := IH.out a s0 mid R wc (by omega) (K1.out h3) (by omega) (fun k h5 h6 => HEF.out k h5 (by omega)) HR1.out HG1.out
                  have HCALL := Lib.hid hcall
                  clear h3 hcall
                  unfold Merges at HCALL
                  go_wp2_with (go_at_call 45; refine HCALL.out.mono ?_; rintro e w2 ⟨rfl, hr2, hg2⟩; have HX := Lib.hid hr2; have HZ := Lib.hid hg2; clear hr2 hg2)
                  go_meet
                  obtain ⟨F, f1, f2⟩ := HX.out
                  exact ⟨F, f1, f2, HG1.out.trans HZ.out⟩
                | false =>
                  have h3 : ¬ (a < s0 ∧ s0 < mid) := of_decide_eq_false T2.out
                  have HS := Lib.hid (K2.out h3)
                  clear h3
                  go_wp2
                  go_meet
                  exact ⟨R, HR1.out, ⟨.refl, HS.out⟩, HG1.out⟩
              case rest =>
                obtain ⟨F, hr, hm, hg⟩ := hcut
                have HR2 := Lib.hid hr
                have HM2 := Lib.hid hm
                have HG2 := Lib.hid hg
                have hsame : ∀ k, mid ≤ k → F k = R k := fun k hk => hm.rch.out (.inr hk)
                have k4 : ¬ (mid < e ∧ e < b) → Srt lt mid b F := fun h i j h1 h2 h3 => by
                  rw [hsame i h1, hsame j (by omega)]
                  exact K4.out h i j h1 h2 h3
                have k3 : mid < e ∧ e < b → Two lt mid e b F := fun h => by
                  obtain ⟨x1, x2, x3, x4, x5⟩ := K3.out h
                  refine ⟨x1, x2, fun i j h1 h2 h3 => ?_, fun i j h1 h2 h3 => ?_, fun i j h1 h2 h3 h4 => ?_⟩
                  · rw [hsame i h1, hsame j (by omega)]; exact x3 i j h1 h2 h3
                  · rw [hsame i (by omega), hsame j (by omega)]; exact x4 i j h1 h2 h3
                  · rw [hsame i h1, hsame j (by omega)]; exact x5 i j h1 h2 h3 h4
                have kE : ∀ k, mid ≤ k → k < b → F k < n := fun k h1 h2 => by
                  rw [hsame k h1]
                  exact HEF.out k (by omega) h2
                have KE := Lib.hid kE
                have K6 := Lib.hid k3
                have K7 := Lib.hid k4
                clear hr hm hg hsame k3 k4 kE K1 K2 K3 K4 HEF HR1 HG1
                go_upto_region 43 with (fail)
                go_cut [213] from 206 to 213 (fun s wz => s = .bool t3 ∧ wc = wz)
                case first =>
                  by_cases g1 : mid < e
                  · by_cases g2 : e < b
                    · obtain rfl : t3 = true := by rw [← T3.out]; exact decide_eq_true ⟨g1, g2⟩
                      go_wp2
                      go_meet
                      exact ⟨rfl, rfl⟩
                    · obtain rfl : t3 = false := by rw [← T3.out]; exact decide_eq_false fun z => g2 z.2
                      go_wp2
                      go_meet
                      exact ⟨rfl, rfl⟩
                  · obtain rfl : t3 = false := by rw [← T3.out]; exact decide_eq_false fun z => g1 z.1
                    go_wp2
                    go_meet
                    exact ⟨rfl, rfl⟩
                case rest =>
                  obtain ⟨rfl, rfl⟩ := hcut
                  cases t3 with
                  | true =>
                    have h3 : mid < e ∧ e < b := of_decide_eq_true T3.out
                    have hcall := IH.out mid e b F wc (by omega) (K6.out h3) h2 KE.out HR2.out HG2.out
                    have HCALL := Lib.hid hcall
                    clear h3 hcall
                    unfold Merges at HCALL
                    go_wp2_with (go_at_call 45; refine HCALL.out.mono ?_; rintro e w2 ⟨rfl, hr2, hg2⟩; have HX := Lib.hid hr2; have HZ := Lib.hid hg2; clear hr2 hg2)
                    go_end0
                    obtain ⟨G, f1, f2⟩ := HX.out
                    exact ⟨rfl, ⟨G, f1, K5.out F G HM2.out f2⟩, HG2.out.trans HZ.out⟩
                  | false =>
                    have h3 : ¬ (mid < e ∧ e < b) := of_decide_eq_false T3.out
                    have HS := Lib.hid (K7.out h3)
                    clear h3
                    go_wp2
                    go_end0
                    exact ⟨rfl, ⟨F, HR2.out, K5.out F F HM2.out ⟨.refl, HS.out⟩⟩, HG2.out⟩
/-- Merging in place: whatever lies before a and from b on stays, what lies between is sorted. -/
theorem symMerge_at {lt : Nat → Nat → Prop} {cf : Nat → Nat → Int} (gf : Nat) (lb : Array Value) (eg : ∀ args w, (callFunc gf args).run Try.prog w = .ok (.enter gf args) w) (B : Bef lt cf) (base g n c : Nat) (w : World) (HC : Cmps gf lb cf n w g) (hn : n ≤ 1000000) :
    ∀ (d a m b : Nat) (D : Nat → Nat) (w' : World), b - a = d → Two lt a m b D → b ≤ n → (∀ k, a ≤ k → k < b → D k < n) → Rd w' base g n c D → Gr w w' g → Merges lt gf lb base g n c a m b D w' := by
  intro d
  induction d using Nat.strongRecOn with
  | _ d ih =>
    intro a m b D w' hd hT hb hE hR hG
    by_cases h1 : m = a + 1
    · subst h1
      exact symOne_at gf lb eg (Lib.hid B) base g n c a (a + 1) b D w' (Lib.hid hR) (Lib.hid (HC.next hG)) hn hb (Lib.hid hT) rfl (Lib.hid hE)
    · by_cases h2 : b = m + 1
      · subst h2
        exact symLast_at gf lb eg (Lib.hid B) base g n c a m (m + 1) D w' (Lib.hid hR) (Lib.hid (HC.next hG)) hn hb (Lib.hid hT) rfl h1 (Lib.hid hE)
      · exact symMany_at gf lb eg (Lib.hid B) base g n c a m b D w' (Lib.hid hR) (Lib.hid (HC.next hG)) hn hb (Lib.hid hT) h1 h2 (Lib.hid hE)
          (Lib.hid fun a' m' b' D' w2 q1 q2 q3 q4 q5 q6 => ih (b' - a') (by omega) a' m' b' D' w2 rfl q2 q3 q4 q5 (hG.trans q6))
end Go.Proofs.Ytmliajkbknjacaa.StaW
