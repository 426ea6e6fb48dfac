/-
  Walk of the specification of package field: take. Condition: none.
-/
import Derived.Test.YtedkpkdfopffiaaDoorFieldC
namespace Go.Proofs.YtedkpkdfopffiaaDoor.NamW
open Go.ChangeShapes Go.WideShapes Go.ChangeAt Go.RowKit
open PairW NamP StrW FldP
theorem tw_split : ∀ (k : Nat) (l : Bs), k ≤ l.length → (∀ j, j < k → atB l j ≠ 32) → (k = l.length ∨ atB l k = 32) →
    l.takeWhile (fun c => decide (c ≠ 32)) = l.take k ∧ l.dropWhile (fun c => decide (c ≠ 32)) = l.drop k
  | 0, [], _, _, _ => ⟨rfl, rfl⟩
  | 0, c :: l, _, _, h => by
    have hc : c = 32 := by
      rcases h with h | h
      · simp at h
      · exact h
    subst hc
    exact ⟨rfl, rfl⟩
  | k + 1, [], h, _, _ => by simp at h
  | k + 1, c :: l, hk, h, he => by
    have hc : c ≠ 32 := h 0 (by omega)
    have he' : k = l.length ∨ atB l k = 32 := by
      rcases he with e | e
      · exact .inl (by simpa using e)
      · exact .inr e
    obtain ⟨h1, h2⟩ := tw_split k l (by simpa using hk) (fun j hj => h (j + 1) (by omega)) he'
    rw [List.takeWhile_cons, List.dropWhile_cons, if_pos (decide_eq_true hc), if_pos (decide_eq_true hc), h1, h2]
    exact ⟨rfl, rfl⟩
/-- What take returns. -/
def TakeRet (s x : ByteArray) (n : Nat) : Prop := (takeB (bs s) = none ∧ n = 0) ∨ (takeB (bs s) = some (bs x, (bs s).drop n) ∧ 0 < n ∧ n ≤ s.size)
theorem take_plain {s : ByteArray} {k : Nat} (h0 : 0 < s.size) (h1 : s[0].toNat ≠ 39) (hk : k ≤ s.size) (h : ∀ j, j < k → ∀ hj : j < s.size, s[j].toNat ≠ 32) (he : k = s.size ∨ ∃ hk : k < s.size, s[k].toNat = 32) : TakeRet s (s.extract 0 k) k := by
  have hx : bs (s.extract 0 k) = (bs s).take k := by rw [bs_extract, List.drop_zero, Nat.sub_zero]
  have hb : ∀ (j : Nat) (hj : j < s.size), s[j].toNat ≠ 32 → atB (bs s) j ≠ 32 := fun j hj k e => k (by rw [← bs_at s j hj, e]; rfl)
  have hc := bs_cons s 0 h0
  rw [List.drop_zero] at hc
  have n39 : s[0] ≠ 39 := fun e => h1 (by rw [e]; rfl)
  have ht : takeB (bs s) = if s[0] = 32 then none else some ((bs s).takeWhile (fun c => decide (c ≠ 32)), (bs s).dropWhile (fun c => decide (c ≠ 32))) := by
    rw [hc]
    show (if s[0] = 39 then _ else _) = _
    rw [if_neg n39]
  have e32 : ∀ (j : Nat) (hj : j < s.size), s[j].toNat = 32 → s[j] = 32 := fun j hj e => UInt8.toNat_inj.1 e
  by_cases hz : k = 0
  · subst hz
    rcases he with e | ⟨h2, e⟩
    · omega
    · exact .inl ⟨by rw [ht, if_pos (e32 0 h2 e)], rfl⟩
  · have hne : s[0] ≠ 32 := fun e => h 0 (by omega) h0 (by rw [e]; rfl)
    obtain ⟨t1, t2⟩ := tw_split k (bs s) (by rw [bs_len]; exact hk) (fun j hj => hb j (by omega) (h j hj (by omega))) (by
      rcases he with e | ⟨h2, e⟩
      · exact .inl (by rw [bs_len]; exact e)
      · exact .inr (by rw [bs_at s k h2]; exact e32 k h2 e))
    refine .inr ⟨?_, by omega, hk⟩
    rw [ht, if_neg hne, t1, t2, hx]
theorem take_q {s : ByteArray} (h : 0 < s.size) (h1 : s[0].toNat = 39) : takeB (bs s) = undbl ((bs s).drop 1) := by
  have hc := bs_cons s 0 h
  rw [List.drop_zero] at hc
  rw [show s[0] = 39 from UInt8.toNat_inj.1 h1] at hc
  rw [hc]
  rfl
theorem take_e {s : ByteArray} (h : ¬ 0 < s.size) : takeB (bs s) = none := by
  have e : bs s = [] := List.eq_nil_of_length_eq_zero (by rw [bs_len]; omega)
  rw [e]
  rfl
/-- The field's bytes so far, and where they end. -/
def Cut (s o : ByteArray) (n : Nat) : Prop := takeB (bs s) = (undbl ((bs s).drop n)).map (fun p => (bs o ++ p.1, p.2))
theorem Cut.start {s : ByteArray} (h : 0 < s.size) (h1 : s[0].toNat = 39) : Cut s ⟨#[]⟩ 1 := by
  unfold Cut
  rw [take_q h h1]
  cases undbl ((bs s).drop 1) <;> rfl
theorem Cut.byte {s o x : ByteArray} {n : Nat} (h : Cut s o n) (hn : n < s.size) (hc : s[n].toNat ≠ 39) (hx : bs x = [s[n]]) : Cut s (o ++ x) (n + 1) := by
  unfold Cut at *
  rw [h, bs_cons s n hn, undbl_c (fun e => hc (by rw [e]; rfl)), bs_app, hx, Option.map_map]
  congr 1
  funext p
  simp
theorem Cut.two {s o x : ByteArray} {n : Nat} (h : Cut s o n) (hn : n + 1 < s.size) (hc : s[n].toNat = 39) (hd : s[n + 1].toNat = 39) (hx : bs x = [39]) : Cut s (o ++ x) (n + 2) := by
  unfold Cut at *
  rw [h, bs_cons s n (by omega), bs_cons s (n + 1) hn, show s[n] = 39 from UInt8.toNat_inj.1 hc, show s[n + 1] = 39 from UInt8.toNat_inj.1 hd, undbl_q, if_pos rfl, bs_app, hx, Option.map_map]
  congr 1
  funext p
  simp
theorem Cut.stop {s o : ByteArray} {n : Nat} (h : Cut s o n) (hn : n < s.size) (hc : s[n].toNat = 39) (hd : n + 1 = s.size ∨ ∃ h : n + 1 < s.size, s[n + 1].toNat ≠ 39) : TakeRet s o (n + 1) := by
  refine .inr ⟨?_, by omega, by omega⟩
  unfold Cut at h
  have hu : undbl ((bs s).drop n) = some ([], (bs s).drop (n + 1)) := by
    rw [bs_cons s n hn, show s[n] = 39 from UInt8.toNat_inj.1 hc]
    rcases hd with e | ⟨h2, e⟩
    · rw [bs_end s (n + 1) (by omega)]; rfl
    · rw [bs_cons s (n + 1) h2, undbl_q, if_neg (fun k => e (by rw [k]; rfl))]
  rw [h, hu]
  simp
theorem Cut.none {s o : ByteArray} {n : Nat} (h : Cut s o n) (hn : s.size ≤ n) : takeB (bs s) = .none := by
  unfold Cut at h
  rw [h, bs_end s n hn]
  rfl
set_option maxRecDepth 100000 in
set_option maxHeartbeats 2000000 in
theorem take_walk (s : ByteArray) (w : World) (hs : s.size ≤ 100000) : Calls Tryd.prog 30 #[.string s] w fun e w' => ∃ x n, e = .returned (.tuple #[.string x, .int .i64 (n : Nat)]) ∧ TakeRet s x n ∧ w = w' := by
  by_cases h0 : 0 < s.size
  · have hne : s.toList.isEmpty = false := nonempty_at h0
    have h0i : (0 : Int) < s.size := by omega
    by_cases c0 : s[0].toNat = 39
    · have c0i : ((s[0].toNat : Int) == 39) = true := beq_iff_eq.2 (by omega)
      have c0j : ((s[0].toNat : Int) != 39) = false := bne_eq_false_iff_eq.2 (by omega)
      have HCUT := Lib.hid (Cut.start h0 c0)
      go_enter Tryd.func30, Tryd.ntmps30
      go_wp2
      go_loop [5, 6] (fun v i => ∃ (n : Nat) (o : ByteArray), i = .int .i64 n ∧ v = .string o ∧ 1 ≤ n ∧ n ≤ s.size ∧ o.size ≤ n ∧ Cut s o n) (fun _ i => s.size - (intOf i).toNat)
      case atStart => exact ⟨1, ⟨#[]⟩, rfl, rfl, Nat.le_refl _, h0, Nat.zero_le _, HCUT.out⟩
      case round =>
        obtain ⟨n, o, rfl, rfl, hn1, hn, hol, hcut⟩ := hrel
        have HC := Lib.hid hcut
        clear hcut c0i c0j c0
        by_cases hlt : n < s.size
        · have hni : (n : Int) < s.size := by omega
          have i1 : IntKind.i64.wrap ((n : Int) + 1) = (n : Int) + 1 := IntWalk.i64_in _ (by omega)
          have i2 : IntKind.i64.wrap ((n : Int) + 1 + 1) = (n : Int) + 1 + 1 := IntWalk.i64_in _ (by omega)
          have k0 : 0 ≤ (n : Int) + 1 := by omega
          have k1 : ((n : Int) + 1).toNat = n + 1 := by omega
          have k2 : (n : Int) ≤ (n : Int) + 1 := by omega
          have k3 : (n : Int) + 1 ≤ s.size := by omega
          by_cases c : s[n].toNat = 39
          · have ci : ((s[n].toNat : Int) == 39) = true := beq_iff_eq.2 (by omega)
            have cj : ((s[n].toNat : Int) != 39) = false := bne_eq_false_iff_eq.2 (by omega)
            by_cases e : n + 1 < s.size
            · have ei : (n : Int) + 1 < s.size := by omega
              by_cases d : s[n + 1].toNat = 39
              · have di : ((s[n + 1].toNat : Int) == 39) = true := beq_iff_eq.2 (by omega)
                have n1 : ¬ (9223372036854775807 < o.size + 1) := by omega
                have HC2 := Lib.hid (HC.out.two (x := ⟨#[39]⟩) e c d rfl)
                clear c d
                go_wp2
                refine ⟨⟨n + 2, _, by go_num, rfl, by omega, by omega, by rw [size_app]; show o.size + 1 ≤ _; omega, HC2.out⟩, by simp [intOf] <;> omega⟩
              · have di : ((s[n + 1].toNat : Int) == 39) = false := beq_eq_false_iff_ne.2 (by omega)
                have HR := Lib.hid (HC.out.stop hlt c (.inr ⟨e, d⟩))
                clear c d
                go_wp2
                go_ret2
                exact ⟨o, n + 1, by go_num, HR.out, rfl⟩
            · have ei : ¬ (n : Int) + 1 < s.size := by omega
              have HR := Lib.hid (HC.out.stop hlt c (.inl (by omega)))
              clear c
              go_wp2
              go_ret2
              exact ⟨o, n + 1, by go_num, HR.out, rfl⟩
          · have ci : ((s[n].toNat : Int) == 39) = false := beq_eq_false_iff_ne.2 (by omega)
            have cj : ((s[n].toNat : Int) != 39) = true := bne_iff_ne.2 (by omega)
            obtain ⟨x1, x2⟩ := ext_one hlt
            obtain ⟨x, hx⟩ : ∃ x, s.extract n (n + 1) = x := ⟨_, rfl⟩
            rw [hx] at x1 x2
            have HC2 := Lib.hid (HC.out.byte hlt c x1)
            have n1 : ¬ (9223372036854775807 < o.size + x.size) := by omega
            clear c x1
            go_wp2
            refine ⟨⟨n + 1, _, by go_num, rfl, by omega, by omega, by rw [size_app]; omega, HC2.out⟩, by simp [intOf] <;> omega⟩
        · have hni : ¬ (n : Int) < s.size := by omega
          have HR := Lib.hid (HC.out.none (by omega))
          go_wp2
          go_ret2
          exact ⟨⟨#[]⟩, 0, rfl, .inl ⟨HR.out, rfl⟩, rfl⟩
    · have c0i : ((s[0].toNat : Int) == 39) = false := beq_eq_false_iff_ne.2 (by omega)
      have c0j : ((s[0].toNat : Int) != 39) = true := bne_iff_ne.2 (by omega)
      have HPL := Lib.hid (fun k => take_plain (k := k) h0 c0)
      go_enter Tryd.func30, Tryd.ntmps30
      go_wp2
      clear c0i c0j c0
      go_loop [4] (fun i => ∃ k : Nat, i = .int .i64 k ∧ k ≤ s.size ∧ ∀ j, j < k → ∀ hj : j < s.size, s[j].toNat ≠ 32) (fun i => s.size - (intOf i).toNat)
      case atStart => exact ⟨0, rfl, Nat.zero_le _, fun j hj => absurd hj (Nat.not_lt_zero _)⟩
      case round =>
        obtain ⟨k, rfl, hk, hok⟩ := hrel
        have HOK := Lib.hid hok
        clear hok
        have hk0 : (0 : Int) ≤ k := by omega
        have hk1 : (k : Int) ≤ s.size := by omega
        by_cases hlt : k < s.size
        · have hki : (k : Int) < s.size := by omega
          by_cases c1 : s[k].toNat = 32
          · have c1i : ((s[k].toNat : Int) != 32) = false := bne_eq_false_iff_eq.2 (by omega)
            have HR := Lib.hid (HPL.out k hk HOK.out (.inr ⟨hlt, c1⟩))
            clear c1
            go_wp2
            go_ret2
            exact ⟨_, k, rfl, HR.out, rfl⟩
          · have c1i : ((s[k].toNat : Int) != 32) = true := bne_iff_ne.2 (by omega)
            have HB := Lib.hid c1
            clear c1
            go_wp2
            refine ⟨⟨k + 1, by go_num, hlt, fun j hj hjs => ?_⟩, by simp [intOf] <;> omega⟩
            by_cases e : j = k
            · subst e; exact HB.out
            · exact HOK.out j (by omega) hjs
        · obtain rfl : k = s.size := by omega
          have HR := Lib.hid (HPL.out s.size (Nat.le_refl _) HOK.out (.inl rfl))
          go_wp2
          go_ret2
          exact ⟨s, s.size, rfl, by have h := HR.out; rwa [show s.extract 0 s.size = s from bytes_inj (by show bs _ = bs s; rw [bs_extract, List.drop_zero, Nat.sub_zero, List.take_of_length_le (by rw [bs_len]; exact Nat.le_refl _)])] at h, rfl⟩
  · have hne : s.toList.isEmpty = true := empty_at h0
    have HR := Lib.hid (take_e h0)
    have h1i : ¬ (1 : Int) < s.size := by omega
    go_enter Tryd.func30, Tryd.ntmps30
    go_wp2
    go_loop [6] (fun i => i = .int .i64 1) (fun _ => 0)
    case atStart => rfl
    case round =>
      subst hrel
      go_wp2
      go_ret2
      exact ⟨⟨#[]⟩, 0, rfl, .inl ⟨HR.out, rfl⟩, rfl⟩
end Go.Proofs.YtedkpkdfopffiaaDoor.NamW
