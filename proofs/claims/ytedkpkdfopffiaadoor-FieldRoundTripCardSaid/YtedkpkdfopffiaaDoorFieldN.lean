/-
  Walk of the specification of package field: Number. Condition: none.
-/
import Derived.Test.YtedkpkdfopffiaaDoorFieldB
import Derived.Test.YtedkpkdfopffiaaDoorStrs
namespace Go.Proofs.YtedkpkdfopffiaaDoor.NamW
open Go.ChangeShapes Go.WideShapes Go.ChangeAt Go.RowKit
open PairW NamP StrW FldP
/-- What has been read of the digits so far; it stands still once it is too great. -/
def Sat (v n : Nat) : Prop := (n ≤ 2 ^ 50 ∧ n = v) ∨ (2 ^ 50 < n ∧ n ≤ 10 * 2 ^ 50 + 9 ∧ 2 ^ 50 < v)
theorem val_take {s : ByteArray} {k : Nat} (h : k < s.size) : valD ((bs s).take (k + 1)) = 10 * valD ((bs s).take k) + (s[k].toNat - 48) := by
  rw [take_at h, val_snoc]
theorem digs_take {s : ByteArray} (h : ∀ j, ∀ hj : j < s.size, 48 ≤ s[j].toNat ∧ s[j].toNat ≤ 57) : (bs s).all digB = true := List.all_eq_true.2 fun c hc => by
  obtain ⟨k, hk, rfl⟩ := get_mem hc
  exact (digB_iff _).2 (h k hk)
theorem digs_bad {s : ByteArray} {k : Nat} (h : k < s.size) (hb : s[k].toNat < 48 ∨ 57 < s[k].toNat) : (bs s).all digB = false := Bool.of_not_eq_true fun e => by
  have := (digB_iff _).1 (List.all_eq_true.1 e _ (bs_get h))
  omega
theorem wrap_u8 {x : Int} (h0 : 0 ≤ x) (h1 : x ≤ 255) : IntKind.u8.wrap x = x := by
  unfold IntKind.wrap
  simp [IntKind.signed, IntKind.bits]
  omega
/-- What Number answers for digits d, with a sign or none. -/
def ansE (d : Bs) (neg : Bool) : Int := if d = [] ∨ (d.head? = some 48 ∧ (1 < d.length ∨ neg = true)) then 2 else if d.all digB then (if 2 ^ 50 < valD d then 1 else 0) else 2
def ansV (d : Bs) (neg : Bool) : Int := if ansE d neg = 0 then (if neg = true then -(valD d : Int) else valD d) else 0
theorem ans_number (s : Bs) : numberE s = ansE (numD s) (decide (s.head? = some 45)) ∧ numberV s = ansV (numD s) (decide (s.head? = some 45)) := by
  have h : numberE s = ansE (numD s) (decide (s.head? = some 45)) := by
    unfold numberE ansE
    simp only [decide_eq_true_eq]
  refine ⟨h, ?_⟩
  unfold numberV ansV
  rw [h]
  simp only [decide_eq_true_eq]
set_option maxRecDepth 100000 in
set_option maxHeartbeats 4000000 in
theorem rnumber_at (s : ByteArray) (v f : Int) (w : World) (hs : s.size ≤ 100000) (H : Hid (numberV (bs s) = v ∧ numberE (bs s) = f)) :
    Calls Tryd.prog 23 #[.string s] w fun e w' => e = .returned (.tuple #[.int .i64 v, .int .i64 f]) ∧ w = w' := by
  obtain ⟨a1, a2⟩ := ans_number (bs s)
  have hv := a2.symm.trans H.out.1
  have hf := a1.symm.trans H.out.2
  clear H a1 a2
  by_cases h0 : 0 < s.size
  · have hne : s.toList.isEmpty = false := nonempty_at h0
    have h0i : (0 : Int) < s.size := by omega
    rw [head_at h0] at hv hf
    by_cases c0 : s[0].toNat = 45
    · have c0i : ((s[0].toNat : Int) == 45) = true := beq_iff_eq.2 (by omega)
      have e45 : some s[0] = some (45 : UInt8) := by rw [show s[0] = 45 from UInt8.toNat_inj.1 c0]
      have hex : bs (s.extract 1 s.size) = (bs s).drop 1 := by rw [bs_extract, List.take_of_length_le (by rw [List.length_drop, bs_len]; exact Nat.le_refl _)]
      have hnd : numD (bs s) = bs (s.extract 1 s.size) := by unfold numD; rw [head_at h0, if_pos e45, hex, List.drop_one]
      have hds : (s.extract 1 s.size).size = s.size - 1 := by rw [ByteArray.size_extract]; omega
      rw [hnd, decide_eq_true e45] at hv hf
      obtain ⟨d, hd⟩ : ∃ d, s.extract 1 s.size = d := ⟨_, rfl⟩
      rw [hd] at hv hf hds
      have HV := Lib.hid hv
      have HF := Lib.hid hf
      have h1i : (1 : Int) ≤ s.size := by omega
      have hne2 : d ≠ s := fun e => by rw [e] at hds; omega
      have hss : (d.toList == s.toList) = false := str_ne hne2
      clear hv hf e45 hnd hex hne2
      by_cases z : 0 < d.size
      · have hze : d.toList.isEmpty = false := nonempty_at z
        have zi : (0 : Int) < d.size := by omega
        have hbs : bs d ≠ [] := fun e => by have := bs_len d; rw [e, List.length_nil] at this; omega
        have hd1 : d.size ≤ 100000 := by omega
        clear hds
        by_cases z0 : d[0].toNat = 48
        · have z0i : ((d[0].toNat : Int) == 48) = true := beq_iff_eq.2 (by omega)
          have hcond : bs d = [] ∨ ((bs d).head? = some 48 ∧ (1 < (bs d).length ∨ true = true)) := .inr ⟨by rw [head_at z, show d[0] = 48 from UInt8.toNat_inj.1 z0], .inr rfl⟩
          clear z0 c0
          by_cases z1 : 1 < d.size
          · have z1i : (1 : Int) < d.size := by omega
            obtain rfl : 2 = f := by rw [← HF.out]; unfold ansE; rw [if_pos hcond]
            obtain rfl : 0 = v := by rw [← HV.out]; unfold ansV; rw [HF.out]; rfl
            clear hcond
            go_enter Tryd.func23, Tryd.ntmps23
            go_wp2
            go_ret2
            exact ⟨rfl, rfl⟩
          · have z1i : ¬ (1 : Int) < d.size := by omega
            obtain rfl : 2 = f := by rw [← HF.out]; unfold ansE; rw [if_pos hcond]
            obtain rfl : 0 = v := by rw [← HV.out]; unfold ansV; rw [HF.out]; rfl
            clear hcond
            go_enter Tryd.func23, Tryd.ntmps23
            go_wp2
            go_ret2
            exact ⟨rfl, rfl⟩
        · have z0i : ((d[0].toNat : Int) == 48) = false := beq_eq_false_iff_ne.2 (by omega)
          have hcond : ¬ (bs d = [] ∨ ((bs d).head? = some 48 ∧ (1 < (bs d).length ∨ true = true))) := by
            rintro (e | ⟨e, _⟩)
            · exact hbs e
            · rw [head_at z] at e; injection e with e; exact z0 (by rw [e]; rfl)
          clear z0 c0
          have HANS := Lib.hid (show ansE (bs d) true = if (bs d).all digB then (if 2 ^ 50 < valD (bs d) then 1 else 0) else 2 by unfold ansE; rw [if_neg hcond])
          clear hcond
          go_enter Tryd.func23, Tryd.ntmps23
          go_wp2
          clear z0i c0i
          go_loop [5, 6] (fun a i => ∃ k m : Nat, i = .int .i64 k ∧ a = .int .i64 m ∧ k ≤ d.size ∧ Sat (valD ((bs d).take k)) m ∧ ∀ j, j < k → ∀ hj : j < d.size, 48 ≤ d[j].toNat ∧ d[j].toNat ≤ 57) (fun _ i => d.size - (intOf i).toNat)
          case atStart => exact ⟨0, 0, rfl, rfl, Nat.zero_le _, .inl ⟨by omega, rfl⟩, fun j hj => absurd hj (Nat.not_lt_zero _)⟩
          case round =>
            obtain ⟨k, m, rfl, rfl, hk, hsat, hok⟩ := hrel
            have HOK := Lib.hid hok
            have hm : m ≤ 10 * 2 ^ 50 + 9 := by rcases hsat with ⟨h, _⟩ | ⟨_, h, _⟩ <;> omega
            have HSAT := Lib.hid hsat
            clear hok hsat
            by_cases hlt : k < d.size
            · have hki : (k : Int) < d.size := by omega
              have HVT := Lib.hid (val_take hlt)
              have HBAD := Lib.hid (digs_bad hlt)
              have hc255 : d[k].toNat < 256 := UInt8.toNat_lt _
              obtain ⟨c, hc⟩ : ∃ c, d[k].toNat = c := ⟨_, rfl⟩
              by_cases c1 : d[k].toNat < 48
              · have c1i : (d[k].toNat : Int) < 48 := by omega
                obtain rfl : 2 = f := by rw [← HF.out, HANS.out, HBAD.out (.inl c1)]; rfl
                obtain rfl : 0 = v := by rw [← HV.out]; unfold ansV; rw [HF.out]; rfl
                clear c1 hc
                go_wp2
                go_ret2
                exact ⟨rfl, rfl⟩
              · have c1i : ¬ (d[k].toNat : Int) < 48 := by omega
                by_cases c2 : 57 < d[k].toNat
                · have c2i : (57 : Int) < d[k].toNat := by omega
                  obtain rfl : 2 = f := by rw [← HF.out, HANS.out, HBAD.out (.inr c2)]; rfl
                  obtain rfl : 0 = v := by rw [← HV.out]; unfold ansV; rw [HF.out]; rfl
                  clear c1 c2 hc
                  go_wp2
                  go_ret2
                  exact ⟨rfl, rfl⟩
                · have c2i : ¬ (57 : Int) < d[k].toNat := by omega
                  have HB := Lib.hid (show 48 ≤ d[k].toNat ∧ d[k].toNat ≤ 57 by omega)
                  by_cases cm : m ≤ 2 ^ 50
                  · have cmi : (m : Int) ≤ 1125899906842624 := by omega
                    have w1 : IntKind.i64.wrap (10 * (m : Int)) = 10 * m := IntWalk.i64_in _ (by omega)
                    have w2 : IntKind.u8.wrap ((d[k].toNat : Int) - 48) = (d[k].toNat : Int) - 48 := wrap_u8 (by omega) (by omega)
                    have w4 : IntKind.i64.wrap ((d[k].toNat : Int) - 48) = (d[k].toNat : Int) - 48 := IntWalk.i64_in _ (by omega)
                    have w3 : IntKind.i64.wrap (10 * (m : Int) + ((d[k].toNat : Int) - 48)) = 10 * m + ((d[k].toNat : Int) - 48) := IntWalk.i64_in _ (by omega)
                    clear c1 c2 hc
                    go_wp2
                    refine ⟨⟨k + 1, 10 * m + (d[k].toNat - 48), by go_num, by have := HB.out; simp; omega, hlt, ?_, fun j hj hjs => ?_⟩, by simp [intOf] <;> omega⟩
                    · rw [HVT.out]
                      have := HB.out
                      rcases HSAT.out with ⟨_, e⟩ | ⟨e, _, _⟩
                      · rw [← e]
                        by_cases g : 10 * m + (d[k].toNat - 48) ≤ 2 ^ 50
                        · exact .inl ⟨g, rfl⟩
                        · exact .inr ⟨by omega, by omega, by omega⟩
                      · omega
                    · by_cases e : j = k
                      · subst e; exact HB.out
                      · exact HOK.out j (by omega) hjs
                  · have cmi : ¬ (m : Int) ≤ 1125899906842624 := by omega
                    clear c1 c2 hc
                    go_wp2
                    refine ⟨⟨k + 1, m, by go_num, rfl, hlt, ?_, fun j hj hjs => ?_⟩, by simp [intOf] <;> omega⟩
                    · rw [HVT.out]
                      rcases HSAT.out with ⟨e, _⟩ | ⟨e1, e2, e3⟩
                      · omega
                      · exact .inr ⟨e1, e2, by omega⟩
                    · by_cases e : j = k
                      · subst e; exact HB.out
                      · exact HOK.out j (by omega) hjs
            · obtain rfl : k = d.size := by omega
              have hall := digs_take (s := d) fun j hj => HOK.out j hj hj
              have hans := HANS.out
              rw [hall, if_pos rfl] at hans
              have hsat := HSAT.out
              rw [List.take_of_length_le (by rw [bs_len]; exact Nat.le_refl _)] at hsat
              rcases hsat with ⟨g1, g2⟩ | ⟨g1, _, g2⟩
              · rw [← g2, if_neg (by omega)] at hans
                obtain rfl : 0 = f := by rw [← HF.out, hans]
                have hvv := HV.out
                unfold ansV at hvv
                rw [HF.out, if_pos rfl, ← g2] at hvv
                have HVV := Lib.hid hvv
                have ci : ¬ (1125899906842624 : Int) < m := by omega
                have w5 : IntKind.i64.wrap (-(m : Int)) = -m := IntWalk.i64_in _ (by omega)
                clear hall hans g2 hvv
                go_wp2
                go_ret2
                exact ⟨by rw [← HVV.out]; rfl, rfl⟩
              · rw [if_pos g2] at hans
                obtain rfl : 1 = f := by rw [← HF.out, hans]
                obtain rfl : 0 = v := by rw [← HV.out]; unfold ansV; rw [HF.out]; rfl
                have ci : (1125899906842624 : Int) < m := by omega
                clear hall hans g2
                go_wp2
                go_ret2
                exact ⟨rfl, rfl⟩
      · have hze : d.toList.isEmpty = true := empty_at z
        have hcond : bs d = [] ∨ ((bs d).head? = some 48 ∧ (1 < (bs d).length ∨ true = true)) := .inl (List.eq_nil_of_length_eq_zero (by rw [bs_len]; omega))
        clear c0 hds
        obtain rfl : 2 = f := by rw [← HF.out]; unfold ansE; rw [if_pos hcond]
        obtain rfl : 0 = v := by rw [← HV.out]; unfold ansV; rw [HF.out]; rfl
        clear hcond
        go_enter Tryd.func23, Tryd.ntmps23
        go_wp2
        go_ret2
        exact ⟨rfl, rfl⟩
    · have c0i : ((s[0].toNat : Int) == 45) = false := beq_eq_false_iff_ne.2 (by omega)
      have n45 : ¬ (some s[0] = some (45 : UInt8)) := fun e => c0 (by injection e with e; rw [e]; rfl)
      have hnd : numD (bs s) = bs s := by unfold numD; rw [head_at h0, if_neg n45]
      rw [hnd, decide_eq_false n45] at hv hf
      have HV := Lib.hid hv
      have HF := Lib.hid hf
      have hbs : bs s ≠ [] := fun e => by have := bs_len s; rw [e, List.length_nil] at this; omega
      have hss : (s.toList == s.toList) = true := str_eq rfl
      clear hv hf n45 hnd
      by_cases z0 : s[0].toNat = 48
      · have z0i : ((s[0].toNat : Int) == 48) = true := beq_iff_eq.2 (by omega)
        by_cases z1 : 1 < s.size
        · have z1i : (1 : Int) < s.size := by omega
          have hcond : bs s = [] ∨ ((bs s).head? = some 48 ∧ (1 < (bs s).length ∨ false = true)) := .inr ⟨by rw [head_at h0, show s[0] = 48 from UInt8.toNat_inj.1 z0], .inl (by rw [bs_len]; exact z1)⟩
          clear z0 c0
          obtain rfl : 2 = f := by rw [← HF.out]; unfold ansE; rw [if_pos hcond]
          obtain rfl : 0 = v := by rw [← HV.out]; unfold ansV; rw [HF.out]; rfl
          clear hcond
          go_enter Tryd.func23, Tryd.ntmps23
          go_wp2
          go_ret2
          exact ⟨rfl, rfl⟩
        · have z1i : ¬ (1 : Int) < s.size := by omega
          have hcond : ¬ (bs s = [] ∨ ((bs s).head? = some 48 ∧ (1 < (bs s).length ∨ false = true))) := by
            rintro (e | ⟨_, e | e⟩)
            · exact hbs e
            · rw [bs_len] at e; omega
            · cases e
          clear z0 c0
          have HANS := Lib.hid (show ansE (bs s) false = if (bs s).all digB then (if 2 ^ 50 < valD (bs s) then 1 else 0) else 2 by unfold ansE; rw [if_neg hcond])
          clear hcond
          go_enter Tryd.func23, Tryd.ntmps23
          go_wp2
          clear z0i z1i c0i
          go_loop [5, 6] (fun a i => ∃ k m : Nat, i = .int .i64 k ∧ a = .int .i64 m ∧ k ≤ s.size ∧ Sat (valD ((bs s).take k)) m ∧ ∀ j, j < k → ∀ hj : j < s.size, 48 ≤ s[j].toNat ∧ s[j].toNat ≤ 57) (fun _ i => s.size - (intOf i).toNat)
          case atStart => exact ⟨0, 0, rfl, rfl, Nat.zero_le _, .inl ⟨by omega, rfl⟩, fun j hj => absurd hj (Nat.not_lt_zero _)⟩
          case round =>
            obtain ⟨k, m, rfl, rfl, hk, hsat, hok⟩ := hrel
            have HOK := Lib.hid hok
            have hm : m ≤ 10 * 2 ^ 50 + 9 := by rcases hsat with ⟨h, _⟩ | ⟨_, h, _⟩ <;> omega
            have HSAT := Lib.hid hsat
            clear hok hsat
            by_cases hlt : k < s.size
            · have hki : (k : Int) < s.size := by omega
              have HVT := Lib.hid (val_take hlt)
              have HBAD := Lib.hid (digs_bad hlt)
              have hc255 : s[k].toNat < 256 := UInt8.toNat_lt _
              obtain ⟨c, hc⟩ : ∃ c, s[k].toNat = c := ⟨_, rfl⟩
              by_cases c1 : s[k].toNat < 48
              · have c1i : (s[k].toNat : Int) < 48 := by omega
                obtain rfl : 2 = f := by rw [← HF.out, HANS.out, HBAD.out (.inl c1)]; rfl
                obtain rfl : 0 = v := by rw [← HV.out]; unfold ansV; rw [HF.out]; rfl
                clear c1 hc
                go_wp2
                go_ret2
                exact ⟨rfl, rfl⟩
              · have c1i : ¬ (s[k].toNat : Int) < 48 := by omega
                by_cases c2 : 57 < s[k].toNat
                · have c2i : (57 : Int) < s[k].toNat := by omega
                  obtain rfl : 2 = f := by rw [← HF.out, HANS.out, HBAD.out (.inr c2)]; rfl
                  obtain rfl : 0 = v := by rw [← HV.out]; unfold ansV; rw [HF.out]; rfl
                  clear c1 c2 hc
                  go_wp2
                  go_ret2
                  exact ⟨rfl, rfl⟩
                · have c2i : ¬ (57 : Int) < s[k].toNat := by omega
                  have HB := Lib.hid (show 48 ≤ s[k].toNat ∧ s[k].toNat ≤ 57 by omega)
                  by_cases cm : m ≤ 2 ^ 50
                  · have cmi : (m : Int) ≤ 1125899906842624 := by omega
                    have w1 : IntKind.i64.wrap (10 * (m : Int)) = 10 * m := IntWalk.i64_in _ (by omega)
                    have w2 : IntKind.u8.wrap ((s[k].toNat : Int) - 48) = (s[k].toNat : Int) - 48 := wrap_u8 (by omega) (by omega)
                    have w4 : IntKind.i64.wrap ((s[k].toNat : Int) - 48) = (s[k].toNat : Int) - 48 := IntWalk.i64_in _ (by omega)
                    have w3 : IntKind.i64.wrap (10 * (m : Int) + ((s[k].toNat : Int) - 48)) = 10 * m + ((s[k].toNat : Int) - 48) := IntWalk.i64_in _ (by omega)
                    clear c1 c2 hc
                    go_wp2
                    refine ⟨⟨k + 1, 10 * m + (s[k].toNat - 48), by go_num, by have := HB.out; simp; omega, hlt, ?_, fun j hj hjs => ?_⟩, by simp [intOf] <;> omega⟩
                    · rw [HVT.out]
                      have := HB.out
                      rcases HSAT.out with ⟨_, e⟩ | ⟨e, _, _⟩
                      · rw [← e]
                        by_cases g : 10 * m + (s[k].toNat - 48) ≤ 2 ^ 50
                        · exact .inl ⟨g, rfl⟩
                        · exact .inr ⟨by omega, by omega, by omega⟩
                      · omega
                    · by_cases e : j = k
                      · subst e; exact HB.out
                      · exact HOK.out j (by omega) hjs
                  · have cmi : ¬ (m : Int) ≤ 1125899906842624 := by omega
                    clear c1 c2 hc
                    go_wp2
                    refine ⟨⟨k + 1, m, by go_num, rfl, hlt, ?_, fun j hj hjs => ?_⟩, by simp [intOf] <;> omega⟩
                    · rw [HVT.out]
                      rcases HSAT.out with ⟨e, _⟩ | ⟨e1, e2, e3⟩
                      · omega
                      · exact .inr ⟨e1, e2, by omega⟩
                    · by_cases e : j = k
                      · subst e; exact HB.out
                      · exact HOK.out j (by omega) hjs
            · obtain rfl : k = s.size := by omega
              have hall := digs_take (s := s) fun j hj => HOK.out j hj hj
              have hans := HANS.out
              rw [hall, if_pos rfl] at hans
              have hsat := HSAT.out
              rw [List.take_of_length_le (by rw [bs_len]; exact Nat.le_refl _)] at hsat
              rcases hsat with ⟨g1, g2⟩ | ⟨g1, _, g2⟩
              · rw [← g2, if_neg (by omega)] at hans
                obtain rfl : 0 = f := by rw [← HF.out, hans]
                have hvv := HV.out
                unfold ansV at hvv
                rw [HF.out, if_pos rfl, ← g2] at hvv
                have HVV := Lib.hid hvv
                have ci : ¬ (1125899906842624 : Int) < m := by omega
                have w5 : IntKind.i64.wrap (-(m : Int)) = -m := IntWalk.i64_in _ (by omega)
                clear hall hans g2 hvv
                go_wp2
                go_ret2
                exact ⟨by rw [← HVV.out]; rfl, rfl⟩
              · rw [if_pos g2] at hans
                obtain rfl : 1 = f := by rw [← HF.out, hans]
                obtain rfl : 0 = v := by rw [← HV.out]; unfold ansV; rw [HF.out]; rfl
                have ci : (1125899906842624 : Int) < m := by omega
                clear hall hans g2
                go_wp2
                go_ret2
                exact ⟨rfl, rfl⟩
      · have z0i : ((s[0].toNat : Int) == 48) = false := beq_eq_false_iff_ne.2 (by omega)
        have hcond : ¬ (bs s = [] ∨ ((bs s).head? = some 48 ∧ (1 < (bs s).length ∨ false = true))) := by
          rintro (e | ⟨e, _⟩)
          · exact hbs e
          · rw [head_at h0] at e; injection e with e; exact z0 (by rw [e]; rfl)
        clear z0 c0
        have HANS := Lib.hid (show ansE (bs s) false = if (bs s).all digB then (if 2 ^ 50 < valD (bs s) then 1 else 0) else 2 by unfold ansE; rw [if_neg hcond])
        clear hcond
        go_enter Tryd.func23, Tryd.ntmps23
        go_wp2
        clear z0i c0i
        go_loop [5, 6] (fun a i => ∃ k m : Nat, i = .int .i64 k ∧ a = .int .i64 m ∧ k ≤ s.size ∧ Sat (valD ((bs s).take k)) m ∧ ∀ j, j < k → ∀ hj : j < s.size, 48 ≤ s[j].toNat ∧ s[j].toNat ≤ 57) (fun _ i => s.size - (intOf i).toNat)
        case atStart => exact ⟨0, 0, rfl, rfl, Nat.zero_le _, .inl ⟨by omega, rfl⟩, fun j hj => absurd hj (Nat.not_lt_zero _)⟩
        case round =>
          obtain ⟨k, m, rfl, rfl, hk, hsat, hok⟩ := hrel
          have HOK := Lib.hid hok
          have hm : m ≤ 10 * 2 ^ 50 + 9 := by rcases hsat with ⟨h, _⟩ | ⟨_, h, _⟩ <;> omega
          have HSAT := Lib.hid hsat
          clear hok hsat
          by_cases hlt : k < s.size
          · have hki : (k : Int) < s.size := by omega
            have HVT := Lib.hid (val_take hlt)
            have HBAD := Lib.hid (digs_bad hlt)
            have hc255 : s[k].toNat < 256 := UInt8.toNat_lt _
            obtain ⟨c, hc⟩ : ∃ c, s[k].toNat = c := ⟨_, rfl⟩
            by_cases c1 : s[k].toNat < 48
            · have c1i : (s[k].toNat : Int) < 48 := by omega
              obtain rfl : 2 = f := by rw [← HF.out, HANS.out, HBAD.out (.inl c1)]; rfl
              obtain rfl : 0 = v := by rw [← HV.out]; unfold ansV; rw [HF.out]; rfl
              clear c1 hc
              go_wp2
              go_ret2
              exact ⟨rfl, rfl⟩
            · have c1i : ¬ (s[k].toNat : Int) < 48 := by omega
              by_cases c2 : 57 < s[k].toNat
              · have c2i : (57 : Int) < s[k].toNat := by omega
                obtain rfl : 2 = f := by rw [← HF.out, HANS.out, HBAD.out (.inr c2)]; rfl
                obtain rfl : 0 = v := by rw [← HV.out]; unfold ansV; rw [HF.out]; rfl
                clear c1 c2 hc
                go_wp2
                go_ret2
                exact ⟨rfl, rfl⟩
              · have c2i : ¬ (57 : Int) < s[k].toNat := by omega
                have HB := Lib.hid (show 48 ≤ s[k].toNat ∧ s[k].toNat ≤ 57 by omega)
                by_cases cm : m ≤ 2 ^ 50
                · have cmi : (m : Int) ≤ 1125899906842624 := by omega
                  have w1 : IntKind.i64.wrap (10 * (m : Int)) = 10 * m := IntWalk.i64_in _ (by omega)
                  have w2 : IntKind.u8.wrap ((s[k].toNat : Int) - 48) = (s[k].toNat : Int) - 48 := wrap_u8 (by omega) (by omega)
                  have w4 : IntKind.i64.wrap ((s[k].toNat : Int) - 48) = (s[k].toNat : Int) - 48 := IntWalk.i64_in _ (by omega)
                  have w3 : IntKind.i64.wrap (10 * (m : Int) + ((s[k].toNat : Int) - 48)) = 10 * m + ((s[k].toNat : Int) - 48) := IntWalk.i64_in _ (by omega)
                  clear c1 c2 hc
                  go_wp2
                  refine ⟨⟨k + 1, 10 * m + (s[k].toNat - 48), by go_num, by have := HB.out; simp; omega, hlt, ?_, fun j hj hjs => ?_⟩, by simp [intOf] <;> omega⟩
                  · rw [HVT.out]
                    have := HB.out
                    rcases HSAT.out with ⟨_, e⟩ | ⟨e, _, _⟩
                    · rw [← e]
                      by_cases g : 10 * m + (s[k].toNat - 48) ≤ 2 ^ 50
                      · exact .inl ⟨g, rfl⟩
                      · exact .inr ⟨by omega, by omega, by omega⟩
                    · omega
                  · by_cases e : j = k
                    · subst e; exact HB.out
                    · exact HOK.out j (by omega) hjs
                · have cmi : ¬ (m : Int) ≤ 1125899906842624 := by omega
                  clear c1 c2 hc
                  go_wp2
                  refine ⟨⟨k + 1, m, by go_num, rfl, hlt, ?_, fun j hj hjs => ?_⟩, by simp [intOf] <;> omega⟩
                  · rw [HVT.out]
                    rcases HSAT.out with ⟨e, _⟩ | ⟨e1, e2, e3⟩
                    · omega
                    · exact .inr ⟨e1, e2, by omega⟩
                  · by_cases e : j = k
                    · subst e; exact HB.out
                    · exact HOK.out j (by omega) hjs
          · obtain rfl : k = s.size := by omega
            have hall := digs_take (s := s) fun j hj => HOK.out j hj hj
            have hans := HANS.out
            rw [hall, if_pos rfl] at hans
            have hsat := HSAT.out
            rw [List.take_of_length_le (by rw [bs_len]; exact Nat.le_refl _)] at hsat
            rcases hsat with ⟨g1, g2⟩ | ⟨g1, _, g2⟩
            · rw [← g2, if_neg (by omega)] at hans
              obtain rfl : 0 = f := by rw [← HF.out, hans]
              have hvv := HV.out
              unfold ansV at hvv
              rw [HF.out, if_pos rfl, ← g2] at hvv
              have HVV := Lib.hid hvv
              have ci : ¬ (1125899906842624 : Int) < m := by omega
              have w5 : IntKind.i64.wrap (-(m : Int)) = -m := IntWalk.i64_in _ (by omega)
              clear hall hans g2 hvv
              go_wp2
              go_ret2
              exact ⟨by rw [← HVV.out]; rfl, rfl⟩
            · rw [if_pos g2] at hans
              obtain rfl : 1 = f := by rw [← HF.out, hans]
              obtain rfl : 0 = v := by rw [← HV.out]; unfold ansV; rw [HF.out]; rfl
              have ci : (1125899906842624 : Int) < m := by omega
              clear hall hans g2
              go_wp2
              go_ret2
              exact ⟨rfl, rfl⟩
  · have hne : s.toList.isEmpty = true := empty_at h0
    have e : bs s = [] := List.eq_nil_of_length_eq_zero (by rw [bs_len]; omega)
    rw [e] at hv hf
    obtain rfl : 2 = f := hf
    obtain rfl : 0 = v := hv
    go_enter Tryd.func23, Tryd.ntmps23
    go_wp2
    go_ret2
    exact ⟨rfl, rfl⟩
end Go.Proofs.YtedkpkdfopffiaaDoor.NamW
