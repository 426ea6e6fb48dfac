/-
  Walks of the specification of package assign: least. Condition: none.
-/
import Derived.Test.YtfhdoeajoeaddaaAssignB
namespace Go.Proofs.Ytfhdoeajoeaddaa.AsgW
open Go.ChangeShapes Go.WideShapes Go.ChangeAt Go.RowKit
open PairW CelW TabW MchW AsgP
theorem and_i64 (a b : Nat) (ha : a < 131072) (hb : b < 131072) : bits .and .i64 (a : Int) (b : Int) = ((a &&& b : Nat) : Int) := by
  have hx : a &&& b < 2 ^ 17 := Nat.and_lt_two_pow _ (by omega)
  have h1 : (BitVec.ofInt 64 (a : Int)).toNat = a := by
    rw [BitVec.ofInt_natCast, BitVec.toNat_ofNat]; exact Nat.mod_eq_of_lt (by omega)
  have h2 : (BitVec.ofInt 64 (b : Int)).toNat = b := by
    rw [BitVec.ofInt_natCast, BitVec.toNat_ofNat]; exact Nat.mod_eq_of_lt (by omega)
  show IntKind.i64.wrap ((BitVec.ofInt 64 (a : Int) &&& BitVec.ofInt 64 (b : Int)).toNat : Int) = _
  rw [BitVec.toNat_and, h1, h2]
  simp [IntKind.wrap, IntKind.bits, IntKind.signed]
  omega
theorem or_i64 (a b : Nat) (ha : a < 131072) (hb : b < 131072) : bits .or .i64 (a : Int) (b : Int) = ((a ||| b : Nat) : Int) := by
  have hx : a ||| b < 2 ^ 17 := Nat.or_lt_two_pow (by omega) (by omega)
  have h1 : (BitVec.ofInt 64 (a : Int)).toNat = a := by
    rw [BitVec.ofInt_natCast, BitVec.toNat_ofNat]; exact Nat.mod_eq_of_lt (by omega)
  have h2 : (BitVec.ofInt 64 (b : Int)).toNat = b := by
    rw [BitVec.ofInt_natCast, BitVec.toNat_ofNat]; exact Nat.mod_eq_of_lt (by omega)
  show IntKind.i64.wrap ((BitVec.ofInt 64 (a : Int) ||| BitVec.ofInt 64 (b : Int)).toNat : Int) = _
  rw [BitVec.toNat_or, h1, h2]
  simp [IntKind.wrap, IntKind.bits, IntKind.signed]
  omega
set_option maxRecDepth 100000 in
set_option maxHeartbeats 2000000 in
theorem raleast_at (c : Tb) (vc : Value) (n : Nat) (w : World) (HT : Hid (Cels w vc (cellsG c))) (HN : Hid (c.length = n)) (hn : n ≤ 16) (HS : Hid (Sqa c)) (HR : Hid (Rga c)) :
    Calls Try.prog 27 #[vc] w fun e w' => ∃ (O : List Int) (g cp N : Nat), N = 2 ^ n ∧ e = .returned (.slice (some ⟨g, 0, none⟩) N cp) ∧ w'.ownsRow w.heap.size 3 1 (.slice (some ⟨g, 0, none⟩) N cp) N (cellsI O) ∧ Own w w' ∧ Hs c 0 O := by
  obtain ⟨AC, capc, rfl, t1, t2, _⟩ := gt_open HT.out
  rw [HN.out] at t1 HT ⊢
  unfold maxLen at t2
  obtain ⟨i0, hi, hz0, hz1, hz2⟩ := info_parts (show (Try.prog.info? 3).map (fun i => (i.zero, i.size, i.bytes)) = some (some (.int .i64 0), 1, 8) by kernel_rfl)
  have HI := Lib.hid hi
  have HZ0 := Lib.hid hz0
  have HZ1 := Lib.hid hz1
  have HZ2 := Lib.hid hz2
  clear hi hz0 hz1 hz2
  have p16 : ∀ i, i ≤ 16 → 2 ^ i ≤ 65536 := fun i h => Nat.le_trans (Nat.pow_le_pow_right (by decide) h) (by decide)
  have P16 := Lib.hid p16
  clear p16
  go_enter Try.func27, Try.ntmps27
  go_wp2
  go_loopw [4, 5] (fun va vi wr => ∃ i a : Nat, va = .int .i64 (a : Int) ∧ vi = .int .i64 (i : Int) ∧ i ≤ n ∧ a ≤ 65536 ∧ w = wr ∧ a = 2 ^ i) (fun _ vi _ => n - (intOf vi).toNat)
  case atStart => exact ⟨0, 1, rfl, rfl, Nat.zero_le _, by decide, rfl, rfl⟩
  case round =>
    obtain ⟨i, a, rfl, rfl, hi, ha, rfl, hp⟩ := hrel
    have HP := Lib.hid hp
    clear hp
    by_cases hlt : i < n
    · have hin : (i : Int) < n := by omega
      have hq : 2 * a = 2 ^ (i + 1) := by rw [HP.out, Nat.pow_succ]; omega
      have hq2 : 2 * a ≤ 65536 := by rw [hq]; exact P16.out _ (by omega)
      have HQ := Lib.hid hq
      clear hq
      go_wp2
      go_roundw
      case rel => exact ⟨i + 1, 2 * a, by go_num, by go_num, hlt, hq2, trivial, HQ.out⟩
      case measure => simp [intOf]; omega
    · obtain rfl : n = i := by omega
      go_wp2
      have HR0 := Lib.hid (show w.ownsRow w.heap.size 3 1 (.slice none 0 0) 0 (cellsI (List.replicate 0 0)) from World.ownsRow_nil _ _ _ _)
      have hap : 0 < a := by rw [HP.out]; exact Nat.two_pow_pos _
      go_loopw [6, 7] (fun vo vs wr => ∃ k : Nat, vs = .int .i64 (k : Int) ∧ k ≤ a ∧ Own w wr ∧ wr.ownsRow w.heap.size 3 1 vo k (cellsI (List.replicate k 0))) (fun _ vs _ => a - (intOf vs).toNat)
      case atStart => exact ⟨0, rfl, Nat.zero_le _, Own.refl w, HR0.out⟩
      case round =>
        clear HR0
        obtain ⟨k, rfl, hk, q, hrow⟩ := hrel
        have HQ := Lib.hid q
        have HROW := Lib.hid hrow
        obtain ⟨Ao, co, rfl⟩ := rows_shape hrow
        clear q hrow
        by_cases hlt : k < a
        · have hkn : (k : Int) < a := by omega
          have q7 := (Own.refl wr).alloc (.cells #[.int .i64 0] 3)
          have HRO := Lib.hid (row_own HROW.out q7)
          have HCE := Lib.hid (cel_lit (w := wr) (T := 3) (cs := #[.int .i64 0]) (xs := [.int .i64 0]) (k := 1) rfl rfl (by unfold maxLen; decide))
          have HQ7 := Lib.hid (HQ.out.trans q7)
          have K2 := Lib.hid (show k + 1 ≤ maxLen by unfold maxLen; omega)
          have K3 := Lib.hid (show (k + 1) * 8 ≤ 140737488355328 by omega)
          have HRP := Lib.hid (show cellsI (List.replicate (k + 1) 0) = cellsI (List.replicate k 0) ++ [.int .i64 0] by unfold cellsI; rw [List.replicate_succ', List.map_append]; rfl)
          clear q7
          go_wp2_with (at_builtin; refine wpList_append_f (by go_simp) _ _ 23 rfl w.heap.size 3 i0 (.int .i64 0) 8 Try.underlying23 HI.out HZ0.out HZ1.out HZ2.out rfl (.slice Ao k co) k (cellsI (List.replicate k 0)) rfl HRO.out _ [.int .i64 0] rfl HCE.out (fun x hx => by rw [List.mem_singleton.1 hx]; rfl) (k + 1) rfl K2.out K3.out HQ7.out.size ?_; intro v8 w8 hown8 hgr8 _; have HOWN8 := Lib.hid hown8; have HGR8 := Lib.hid (row_after HQ7.out HRO.out hgr8 (Nat.le_refl _)); clear hown8 hgr8)
          go_roundw
          case rel => exact ⟨k + 1, by go_num, hlt, HGR8.out, by rw [HRP.out]; exact HOWN8.out⟩
          case measure => simp [intOf]; omega
        · obtain rfl : a = k := by omega
          obtain ⟨g, cp, he⟩ := rowI_form HROW.out hap
          injection he with he1 he2 he3
          subst he1
          subst he3
          have HH := Lib.hid (show Hs c (a - 1) (List.replicate a 0) by
            have := Hs.start (c := c) (O := List.replicate a 0) (by rw [List.length_replicate, HN.out]; exact HP.out) (by rw [List.getD_eq_getElem?_getD, List.getElem?_replicate, HN.out, ← HP.out, if_pos (by omega)]; rfl)
            rw [HN.out, ← HP.out] at this
            exact this)
          go_wp2
          go_loopw [8, 9, 10, 11, 12] (fun vs _ _ _ _ wx => ∃ (s : Nat) (x : Int) (O : List Int), vs = .int .i64 x ∧ x = (s : Int) - 1 ∧ s ≤ a - 1 ∧ Own w wx ∧ wx.ownsRow w.heap.size 3 1 (.slice (some ⟨g, 0, none⟩) a co) a (cellsI O) ∧ Hs c s O) (fun vs _ _ _ _ _ => (intOf vs + 1).toNat)
          case atStart => exact ⟨a - 1, _, _, rfl, by omega, Nat.le_refl _, HQ.out, HROW.out, HH.out⟩
          case round =>
            clear HROW HQ HH
            obtain ⟨s, x, O, rfl, hx, hs, q, hrow, hh⟩ := hrel
            have HROW := Lib.hid hrow
            have HQ := Lib.hid q
            have HH := Lib.hid hh
            clear hrow q hh
            cases s with
            | zero =>
              obtain rfl : x = -1 := by omega
              clear hx hs
              go_wp2
              go_ret
              exact ⟨O, g, co, a, HP.out, rfl, HROW.out, HQ.out, HH.out⟩
            | succ t =>
              obtain rfl : x = (t : Int) := by omega
              have ht0 : (0 : Int) ≤ t := by omega
              clear hx
              obtain ⟨k, hk⟩ : ∃ k, pc t = k := ⟨_, rfl⟩
              have HK := Lib.hid hk
              clear hk
              have ht2 : t < 2 ^ c.length - 1 := by rw [HN.out, ← HP.out]; omega
              have hkn : k < n := by
                obtain ⟨j0, hj0, q0⟩ := free_of _ _ ht2
                have h1 := pc_le _ _ (put_lt (by omega) hj0 : t ||| 2 ^ j0 < 2 ^ c.length)
                rw [put_pc q0, HK.out, HN.out] at h1
                omega
              have HT2 := Lib.hid ht2
              clear ht2
              have hsz := rasize_at t k wr (by omega) HK
              go_wp2_with (go_at_call 38; refine hsz.mono ?_; rintro e w1 ⟨rfl, rfl⟩)
              go_loopw [10, 11, 12] (fun vb vj _ wx => ∃ (j : Nat) (m : Int), vj = .int .i64 (j : Int) ∧ vb = .int .i64 m ∧ j ≤ n ∧ Own wr wx ∧ mnn (fJ c O t) t.testBit j = m) (fun _ vj _ _ => n - (intOf vj).toNat)
              case atStart => exact ⟨0, -1, rfl, rfl, Nat.zero_le _, Own.refl _, rfl⟩
              case round =>
                obtain ⟨j, m, rfl, rfl, hj, q, hm⟩ := hrel
                have HM := Lib.hid hm
                clear hm
                have HQX := Lib.hid q
                have HROX := Lib.hid (row_own HROW.out q)
                have HTX := Lib.hid (HT.out.own (HQ.out.trans q))
                clear q
                generalize wr = w6 at *
                by_cases hjn : j < n
                · have hjz : (j : Int) < n := by omega
                  obtain ⟨p, hp⟩ : ∃ p, 2 ^ j = p := ⟨_, rfl⟩
                  have hp1 : p ≤ 65536 := by rw [← hp]; exact P16.out j (by omega)
                  have hp0 : 0 < p := by rw [← hp]; exact Nat.two_pow_pos j
                  have hsh : wrap64 ((2 : Int) ^ j) = (p : Int) := by rw [show (2 : Int) ^ j = (p : Int) by rw [← hp]; simp]; unfold wrap64; omega
                  have hand := and_i64 t p (by omega) (by omega)
                  have hor := or_i64 t p (by omega) (by omega)
                  have HPJ := Lib.hid hp
                  clear hp
                  obtain ⟨z, hz⟩ : ∃ z, t &&& p = z := ⟨_, rfl⟩
                  obtain ⟨r, hr⟩ : ∃ r, t ||| p = r := ⟨_, rfl⟩
                  rw [hz] at hand
                  rw [hr] at hor
                  have HZJ := Lib.hid hz
                  have HRJ := Lib.hid hr
                  clear hz hr
                  cases hb : t.testBit j with
                  | true =>
                    have hz0 : z ≠ 0 := fun e => by
                      have h1 : t &&& 2 ^ j = 0 := by rw [HPJ.out, HZJ.out, e]
                      rw [and_bit.1 h1] at hb
                      exact absurd hb (by decide)
                    have d0 : ((z : Int) != 0) = true := bne_iff_ne.2 (by omega)
                    have HM2 := Lib.hid (show mnn (fJ c O t) t.testBit (j + 1) = m by
                      rw [← HM.out]
                      show (if t.testBit j then _ else _) = _
                      rw [hb, if_pos rfl])
                    clear hb
                    go_wp2
                    go_roundw
                    case rel => exact ⟨j + 1, m, by go_num, rfl, hjn, HQX.out, HM2.out⟩
                    case measure => simp [intOf]; omega
                  | false =>
                    obtain rfl : z = 0 := by
                      rw [← HZJ.out, ← HPJ.out]
                      exact and_bit.2 hb
                    have hra : r < a := by
                      rw [← HRJ.out, ← HPJ.out, HP.out]
                      exact put_lt (by have := HT2.out; rw [HN.out] at this; omega) hjn
                    have hraz : (r : Int) < a := by omega
                    obtain ⟨y, hy1, hy2, hy3⟩ := row_int HROX.out (by have := HH.out.len; rw [HN.out, ← HP.out] at this; exact this) hra
                    have hyD := getD_of hy2
                    have hrs := HH.out.rs r (by rw [← HRJ.out, ← HPJ.out]; exact put_gt hb) (by rw [HN.out, ← HP.out]; exact hra)
                    rw [hyD] at hrs
                    have hyb := hrs.bound (okc_of HR.out)
                    rw [HN.out] at hyb
                    have hyb1 := hyb.1
                    have hyb2 : y ≤ 17592186044416 := by have := hyb.2; omega
                    obtain ⟨gl, ol, cpl, gr, og, cr, he, _, _, e1, h4, h5, hcell⟩ := gt_row HTX.out HS.out HN.out hkn
                    injection he with ea eb ec
                    subst ea
                    subst ec
                    unfold maxLen at h5
                    have e2 := hcell j hjn
                    obtain ⟨u, hu⟩ : ∃ u, ct c k j = u := ⟨_, rfl⟩
                    rw [hu] at e2
                    have hub := okc_of HR.out k j
                    rw [hu] at hub
                    obtain ⟨hub1, hub2⟩ := hub
                    obtain ⟨x, hx⟩ : ∃ x, u + y = x := ⟨_, rfl⟩
                    have HX := Lib.hid (show fJ c O t j = x by unfold fJ; rw [HK.out, hu, HPJ.out, HRJ.out, hyD, hx])
                    have HM2 := Lib.hid (show mnn (fJ c O t) t.testBit (j + 1) = if m < 0 ∨ x < m then x else m by
                      rw [← HM.out, ← HX.out]
                      show (if t.testBit j then _ else _) = _
                      rw [hb, if_neg (by decide)])
                    have hkz : (k : Int) < n := by omega
                    clear hcell hyb hrs hyD hy2 hb eb hu
                    by_cases c1 : m < 0
                    · have HM3 := Lib.hid (HM2.out.trans (if_pos (.inl c1)))
                      go_upto_region 20 with (fail)
                      go_quiet (fail)
                      go_wp2
                      go_roundw
                      case rel => exact ⟨j + 1, x, by go_num, by go_num, hjn, HQX.out.drewN _, HM3.out⟩
                      case measure => simp [intOf]; omega
                    · by_cases c2 : x < m
                      · have HM3 := Lib.hid (HM2.out.trans (if_pos (.inr c2)))
                        go_upto_region 20 with (fail)
                        go_quiet (fail)
                        go_wp2
                        go_roundw
                        case rel => exact ⟨j + 1, x, by go_num, by go_num, hjn, HQX.out.drewN _, HM3.out⟩
                        case measure => simp [intOf]; omega
                      · have HM3 := Lib.hid (HM2.out.trans (if_neg (by omega)))
                        go_upto_region 20 with (fail)
                        go_quiet (fail)
                        go_wp2
                        go_roundw
                        case rel => exact ⟨j + 1, m, by go_num, by go_num, hjn, HQX.out.drewN _, HM3.out⟩
                        case measure => simp [intOf]; omega
                · obtain rfl : n = j := by omega
                  have hta : t < a := by omega
                  have htz : (t : Int) < a := by omega
                  obtain ⟨y, e1, _, e2⟩ := row_int HROX.out (by have := HH.out.len; rw [HN.out, ← HP.out] at this; exact this) hta
                  have HRS := Lib.hid (row_puti HROX.out t m)
                  have HQS := Lib.hid (row_after (HQ.out.trans HQX.out) HROX.out (World.ownsRow.stored HROX.out t (.int .i64 m)).2 (Nat.le_refl _))
                  have HH2 := Lib.hid (show Hs c t (O.set t m) by
                    have := HH.out.more (okc_of HR.out) HT2.out
                    rw [HN.out, HM.out] at this
                    exact this)
                  go_wp2
                  go_roundw
                  case rel => exact ⟨t, (t : Int) - 1, _, by go_num, rfl, by omega, HQS.out, HRS.out, HH2.out⟩
                  case measure => simp [intOf] <;> omega
end Go.Proofs.Ytfhdoeajoeaddaa.AsgW
