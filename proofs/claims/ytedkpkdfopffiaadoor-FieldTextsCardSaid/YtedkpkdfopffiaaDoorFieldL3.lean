/-
  Walk of the law FieldTexts. Condition: none.
-/
import Derived.Test.YtedkpkdfopffiaaDoorFieldL1
namespace Go.Proofs.YtedkpkdfopffiaaDoor.NamW
open Go.ChangeShapes Go.WideShapes Go.ChangeAt Go.RowKit
open PairW NamP StrW FldP
/-- A slice appended to a row of one's own, at an operation that may be guarded. -/
theorem wpList_append_l {P : Program} {ops : Array Oper} {rest : List Oper} {o : Oper} {a : Act} {Q : Exit → Act → World → Prop} {w : World} (hw : Region.wanted o (yielded ops a.tmps) = true) (s x : Operand) (t : TypeId)
    (ho : o.op = .call { callee := .builtin .append, args := #[s, x], argTypes := #[t, t] })
    (base : Nat) (e : TypeId) (i : TypeInfo) (z : Value) (bytes : Nat) (ht : P.underlying t = some (.slice e)) (hi : P.info? e = some i) (hz : i.zero = some z) (hsize : i.size = 1) (hby : i.bytes = bytes) (hzs : z.cells.size = 1)
    (g n cap : Nat) (xs : List Value) (hs : a.eval s = .slice (some ⟨g, 0, none⟩) n cap) (hown : w.ownsRow base e 1 (.slice (some ⟨g, 0, none⟩) n cap) n xs)
    (A : Option Addr) (m c : Nat) (news : List Value) (hx : a.eval x = .slice A m c) (hl : news.length = m) (hA : A = none → m = 0) (hnews : ∀ ad, A = some ad → ∀ j u, news[j]? = some u → w.cell? (ad.add j) = some u) (h1 : ∀ u ∈ news, u.oneCell' = true)
    (k : Nat) (hk : n + m = k) (h63 : k ≤ maxLen) (hbytes : k * bytes ≤ 140737488355328) (hbase : base ≤ w.heap.size)
    (h : ∀ g' cap' w', w'.ownsRow base e 1 (.slice (some ⟨g', 0, none⟩) k cap') k (xs ++ news) → w.grownBy w' (some g) → wpList P ops Q rest (a.put o.dst (.slice (some ⟨g', 0, none⟩) k cap')) w') :
    wpList P ops Q (o :: rest) a w := by
  subst hk
  refine wpList_step fun K hK => ?_
  rw [if_pos hw]
  cases A with
  | none =>
    obtain rfl : m = 0 := hA rfl
    obtain rfl : news = [] := List.eq_nil_of_length_eq_zero hl
    have hcap : n ≤ cap := by
      rcases hown.2 with ⟨h, _⟩ | ⟨_, _, _, hv, _, _, hn, _⟩
      · cases h
      · injection hv with _ _ e3
        rw [e3]; exact hn
    have hr := run_append_empty_geo (P := P) w t o.type e i ht hi g n cap none c hcap
    unfold Oper.wp execOp
    simp only [ho, resolve, invoke, builtin, Sem.run_bind, Sem.run_pure, Result.andThen_ok, List.map_toArray, List.map_cons, List.map_nil, hs, hx, hr]
    refine hK _ _ (h g cap w ?_ (World.grownBy.refl w _))
    rw [List.append_nil]
    exact hown
  | some ad =>
    refine wp_append_own w s x t ho base e i z 1 bytes ht hi hz hsize hby hzs (by omega) _ n xs hs hown ad m c news hx (by omega) (hnews ad rfl) h1 h63 hbytes hbase fun v' w' h2 h3 h4 => hK _ _ ?_
    rcases h2.2 with ⟨hv, _⟩ | ⟨g', cap', cur, rfl, hrest⟩
    · exact absurd (h4.1 hv).1 (by simp)
    · exact h g' cap' w' ⟨h2.1, .inr ⟨g', cap', cur, rfl, hrest⟩⟩ h3
/-- The cells of a slice of slices. -/
theorem lns_rows {w : World} {A : Option Addr} {n c : Nat} {L : List Ss} (h : Lns w (.slice A n c) L) (hn : L.length = n) : ∃ xs : List Value, RowsL w xs L ∧ xs.length = n ∧ (A = none → n = 0) ∧ (∀ ad, A = some ad → ∀ j u, xs[j]? = some u → w.cell? (ad.add j) = some u) ∧ ∀ u ∈ xs, u.oneCell' = true := by
  obtain ⟨A', c', hv, _, _, h4⟩ := h
  injection hv with e1 e2 e3
  subst e1
  subst e3
  subst hn
  by_cases h0 : 0 < L.length
  · obtain ⟨b, off, rfl, hc⟩ := h4 h0
    refine ⟨(List.range L.length).map fun i => (w.cell? ⟨b, off + i, none⟩).getD undef, ⟨by simp, fun i hi => ?_⟩, by simp, fun h => (by cases h), fun ad had j u hu => ?_, fun u hu => ?_⟩
    · obtain ⟨sv, h1, h2⟩ := hc i hi
      refine ⟨sv, ?_, h2⟩
      rw [List.getElem?_map, List.getElem?_range hi]
      show some ((w.cell? ⟨b, off + i, none⟩).getD undef) = some sv
      rw [h1]
      rfl
    · injection had with had
      subst had
      have hj : j < L.length := by
        have := (List.getElem?_eq_some_iff.1 hu).1
        simpa using this
      obtain ⟨sv, h1, _⟩ := hc j hj
      rw [List.getElem?_map, List.getElem?_range hj] at hu
      have hu : some ((w.cell? ⟨b, off + j, none⟩).getD undef) = some u := hu
      rw [h1] at hu
      rw [Addr.add_lit, h1]
      exact hu
    · obtain ⟨i, hi, rfl⟩ := List.mem_map.1 hu
      obtain ⟨sv, h1, h2⟩ := hc i (List.mem_range.1 hi)
      rw [h1]
      obtain ⟨_, _, h3, _⟩ := h2
      rw [h3]
      rfl
  · have hL : L = [] := List.eq_nil_of_length_eq_zero (by omega)
    subst hL
    exact ⟨[], RowsL.nil w, rfl, fun _ => rfl, fun ad _ j u hu => by simp at hu, fun u hu => by cases hu⟩
theorem own_app {w w' : World} {o : Obj} (h : (w.alloc o).grownBy w' (some w.heap.size)) : Own w w' := Own.grown ((Own.refl w).alloc o) h fun k hk => by
  injection hk with hk
  exact Nat.le_of_eq hk
theorem own_app2 {w w5 w6 : World} {g base : Nat} {e : TypeId} {n cap : Nat} {xs : List Value} (hO : Own w w5) (h : w5.grownBy w6 (some g)) (hr : w5.ownsRow base e 1 (.slice (some ⟨g, 0, none⟩) n cap) n xs) (hb : w.heap.size ≤ base) : Own w w6 := hO.grown h fun k hk => by
  have := (hr.lt g rfl).1
  injection hk with hk
  omega
theorem cells_own {w w' : World} {A : Option Addr} {xs : List Value} (h : ∀ ad, A = some ad → ∀ j u, xs[j]? = some u → w.cell? (ad.add j) = some u) (hO : Own w w') : ∀ ad, A = some ad → ∀ j u, xs[j]? = some u → w'.cell? (ad.add j) = some u := fun ad hA j u hj => hO.cell (h ad hA j u hj)
theorem segs_len : ∀ (t acc : Bs), (segs acc t).length ≤ t.length
  | [], _ => Nat.le_refl _
  | c :: r, acc => by
    show (if c = 10 then acc.reverse :: segs [] r else segs (c :: acc) r).length ≤ r.length + 1
    by_cases h : c = 10
    · rw [if_pos h, List.length_cons]
      have := segs_len r []
      omega
    · rw [if_neg h]
      have := segs_len r (c :: acc)
      omega
theorem lines_len (t : Bs) : (linesV t).length ≤ t.length := by
  unfold linesV
  by_cases h : linesE t = 0
  · rw [if_pos h, List.length_map]
    unfold linesOf
    have h1 := segs_len t []
    have h2 := List.length_filter_le (fun l => !passed l) (segs [] t)
    omega
  · rw [if_neg h]; exact Nat.zero_le _
theorem lines_zero {s : Bs} (h : linesE s ≠ 0) : linesV s = [] := by unfold linesV; rw [if_neg h]
theorem map_nil_of {L : List Ss} (h : L.map fl = []) : L = [] := by
  cases L with
  | nil => rfl
  | cons x r => cases h
set_option maxRecDepth 100000 in
set_option maxHeartbeats 4000000 in
theorem FieldTexts_walk (C : FieldC) (s t : ByteArray) (w : World) (M : Hid (Mx w)) :
    Calls Tryd.prog 7 #[.string s, .string t] w fun e w' => e = .returned (.bool true) ∧ Own w w' := by
  have g0 := Own.refl w
  obtain ⟨i0, hi, hz0, hz1, hz2⟩ := info_parts (show (Tryd.prog.info? 22).map (fun i => (i.zero, i.size, i.bytes)) = some (some (.slice none 0 0), 1, 24) by kernel_rfl)
  have HI := Lib.hid hi
  have HZ0 := Lib.hid hz0
  have HZ1 := Lib.hid hz1
  have HZ2 := Lib.hid hz2
  clear hi hz0 hz1 hz2
  by_cases hb : 1200 < s.size
  · have hbi : (1200 : Int) < s.size := by omega
    go_enter Tryd.func7, Tryd.ntmps7
    go_wp2_with (go_at_call 11; with_reducible refine (awake_any C _ (mxo M g0)).mono ?_; rintro e w9 ⟨rfl, hq⟩; replace g0 := g0.trans hq; clear hq)
    go_ret
    exact ⟨rfl, g0⟩
  by_cases hb2 : 1200 < t.size
  · have hbi : ¬ (1200 : Int) < s.size := by omega
    have hbi2 : (1200 : Int) < t.size := by omega
    go_enter Tryd.func7, Tryd.ntmps7
    go_wp2_with (go_at_call 11; with_reducible refine (awake_any C _ (mxo M g0)).mono ?_; rintro e w9 ⟨rfl, hq⟩; replace g0 := g0.trans hq; clear hq)
    go_ret
    exact ⟨rfl, g0⟩
  have hbi : ¬ (1200 : Int) < s.size := by omega
  have hbi2 : ¬ (1200 : Int) < t.size := by omega
  have HS := Lib.hid (show s.size ≤ 100000 by omega)
  have HT := Lib.hid (show t.size ≤ 100000 by omega)
  obtain ⟨f, hf⟩ : ∃ f, linesE (bs s) = f := ⟨_, rfl⟩
  obtain ⟨g, hg⟩ : ∃ g, linesE (bs t) = g := ⟨_, rfl⟩
  have HF := Lib.hid hf
  have HG := Lib.hid hg
  by_cases f0 : f = 0
  · subst f0
    by_cases g1 : g = 0
    · subst g1
      have h1 := lines_append hf hg
      have h2 := lines_append hf ex_mid.1
      have h3 := lines_append h2.1 hg
      rw [h2.2, ex_mid.2, List.append_nil] at h3
      obtain ⟨st, hst⟩ : ∃ st, s ++ t = st := ⟨_, rfl⟩
      obtain ⟨sm, hsm⟩ : ∃ sm, s ++ (⟨#[10, 37, 32, 110, 111, 110, 101, 10]⟩ : ByteArray) = sm := ⟨_, rfl⟩
      obtain ⟨su, hsu⟩ : ∃ su, sm ++ t = su := ⟨_, rfl⟩
      have b1 : bs st = bs s ++ bs t := by rw [← hst, bs_app]
      have b2 : bs su = (bs s ++ exMid) ++ bs t := by rw [← hsu, ← hsm, bs_app, bs_app]; rfl
      rw [← b1] at h1
      rw [← b2] at h3
      have z1 : st.size = s.size + t.size := by rw [← hst, size_app]
      have z0 : sm.size = s.size + 8 := by rw [← hsm, size_app]; rfl
      have z2 : su.size = sm.size + t.size := by rw [← hsu, size_app]
      have n1 : ¬ 9223372036854775807 < s.size + t.size := by omega
      have n2 : ¬ 9223372036854775807 < s.size + (⟨#[10, 37, 32, 110, 111, 110, 101, 10]⟩ : ByteArray).size := by
        have : (⟨#[10, 37, 32, 110, 111, 110, 101, 10]⟩ : ByteArray).size = 8 := rfl
        omega
      have n2' : ¬ 9223372036854775807 < s.size + 8 := by omega
      have n3 : ¬ 9223372036854775807 < sm.size + t.size := by omega
      have HY5 := Lib.hid (show st.size ≤ 100000 by omega)
      have HY6 := Lib.hid (show su.size ≤ 100000 by omega)
      have H1 := Lib.hid h1.1
      have H1V := Lib.hid h1.2
      have H2 := Lib.hid h3.1
      have H2V := Lib.hid h3.2
      clear hf hg h1 h2 h3 b1 b2 z1 z0 z2 hb hb2
      go_enter Tryd.func7, Tryd.ntmps7
      go_upto_region 4 with (go_at_call 17; with_reducible refine (clines C s 0 _ HS.out HF (mxo M g0)).mono ?_; rintro e w1 ⟨M1, n1, A1, c1, rfl, hn1, hp1, hl1, hg⟩; replace g0 := g0.trans hg; clear hg)
      have HA := Lib.hid hp1
      have HAL := Lib.hid hl1
      have HAN := Lib.hid hn1
      clear hp1 hl1 hn1
      go_upto_region 5 with (go_at_call 17; with_reducible refine (clines C t 0 _ HT.out HG (mxo M g0)).mono ?_; rintro e w2 ⟨M2, n2, A2, c2, rfl, hn2, hp2, hl2, hg⟩; replace g0 := g0.trans hg; replace HA := Lib.hid (HA.out.own hg); clear hg)
      have HB := Lib.hid hp2
      have HBL := Lib.hid hl2
      have HBN := Lib.hid hn2
      clear hp2 hl2 hn2
      go_upto_region 8 with (go_at_call 17; with_reducible refine (clines C st 0 _ HY5.out H1 (mxo M g0)).mono ?_; rintro e w3 ⟨M3, n3, A3, c3, rfl, hn3, hp3, hl3, hg⟩; replace g0 := g0.trans hg; replace HA := Lib.hid (HA.out.own hg); replace HB := Lib.hid (HB.out.own hg); clear hg)
      have HC := Lib.hid hp3
      have HCL := Lib.hid hl3
      have HCN := Lib.hid hn3
      clear hp3 hl3 hn3
      go_upto_region 9 with (go_at_call 17; with_reducible refine (clines C su 0 _ HY6.out H2 (mxo M g0)).mono ?_; rintro e w4 ⟨M4, n4, A4, c4, rfl, hn4, hp4, hl4, hg⟩; replace g0 := g0.trans hg; replace HA := Lib.hid (HA.out.own hg); replace HB := Lib.hid (HB.out.own hg); replace HC := Lib.hid (HC.out.own hg); clear hg)
      have HDL := Lib.hid hl4
      have HDN := Lib.hid hn4
      have HD := Lib.hid hp4
      clear hp4 hl4 hn4
      obtain rfl : M3 = M1 ++ M2 := fl_inj2 (by rw [HCL.out, H1V.out, List.map_append, HAL.out, HBL.out])
      obtain rfl : M4 = M1 ++ M2 := fl_inj2 (by rw [HDL.out, H2V.out, List.map_append, HAL.out, HBL.out])
      obtain ⟨xs, hxr, hxl, hxA, hxc, hx1⟩ := lns_rows HA.out HAN.out
      obtain ⟨ys, hyr, hyl, hyA, hyc, hy1⟩ := lns_rows HB.out HBN.out
      have HXR := Lib.hid hxr
      have HXL := Lib.hid hxl
      have HXA := Lib.hid hxA
      have HXC := Lib.hid hxc
      have HX1 := Lib.hid hx1
      have HYR := Lib.hid hyr
      have HYL := Lib.hid hyl
      have HYA := Lib.hid hyA
      have HYC := Lib.hid hyc
      have HY1 := Lib.hid hy1
      have hk1 : n1 ≤ 1200 := by
        have h := lines_len (bs s)
        rw [← HAL.out, List.length_map, HAN.out, bs_len] at h
        omega
      have hk2 : n2 ≤ 1200 := by
        have h := lines_len (bs t)
        rw [← HBL.out, List.length_map, HBN.out, bs_len] at h
        omega
      obtain ⟨k12, hk⟩ : ∃ k, n1 + n2 = k := ⟨_, rfl⟩
      have HK1 := Lib.hid (show 0 + n1 = n1 by omega)
      have HK2 := Lib.hid hk
      have HK3 := Lib.hid (show n1 ≤ maxLen by unfold maxLen; omega)
      have HK4 := Lib.hid (show n1 * 24 ≤ 140737488355328 by omega)
      have HK5 := Lib.hid (show w4.heap.size ≤ (w4.alloc (.cells #[] 22)).heap.size from ((Own.refl w4).alloc _).size)
      have HK6 := Lib.hid (show k12 ≤ maxLen by unfold maxLen; omega)
      have HK7 := Lib.hid (show k12 * 24 ≤ 140737488355328 by omega)
      clear hxr hxl hxA hxc hx1 hyr hyl hyA hyc hy1 hk1 hk2 hk HA HB HAL HBL HAN HBN HCL HDL HCN HDN
      go_wp2_with (first | (at_builtin; refine wpList_append_l (by go_simp) _ _ 34 rfl w4.heap.size 22 i0 (.slice none 0 0) 24 Tryd.underlying34 HI.out HZ0.out HZ1.out HZ2.out rfl w4.heap.size 0 0 [] rfl (World.ownsRow_made w4 #[] 0 (Nat.le_refl _) (Nat.zero_le _) rfl) A1 n1 c1 xs rfl HXL.out HXA.out (cells_own HXC.out ((Own.refl w4).alloc _)) HX1.out n1 HK1.out HK3.out HK4.out HK5.out ?_; intro g5 cap5 w5 hown5 hgr5; have hO5 := own_app hgr5) | (at_builtin; refine wpList_append_l (by go_simp) _ _ 34 rfl w4.heap.size 22 i0 (.slice none 0 0) 24 Tryd.underlying34 HI.out HZ0.out HZ1.out HZ2.out rfl g5 n1 cap5 _ rfl hown5 A2 n2 c2 ys rfl HYL.out HYA.out (cells_own HYC.out hO5) HY1.out k12 HK2.out HK6.out HK7.out hO5.size ?_; intro g6 cap6 w6 hown6 hgr6; have hO6 := own_app2 hO5 hgr6 hown5 (Nat.le_refl _); have HE := Lib.hid (lns_of_row hown6 ((RowsL.own HXR.out hO6).append (RowsL.own HYR.out hO6))).1; have HC6 := Lib.hid (HC.out.own hO6); have HD6 := Lib.hid (HD.out.own hO6); replace g0 := g0.trans hO6) | (go_at_call 19; with_reducible refine (sameL_yes (M1 ++ M2) _ _ _ HC6 HE).mono ?_; rintro e w7 ⟨rfl, hd⟩; have HC7 := Lib.hid (HC6.out.own (Drew.own hd)); have HD7 := Lib.hid (HD6.out.own (Drew.own hd)); replace g0 := g0.trans (Drew.own hd); clear hd) | (go_at_call 19; with_reducible refine (sameL_yes (M1 ++ M2) _ _ _ HD7 HC7).mono ?_; rintro e w8 ⟨rfl, hd⟩; replace g0 := g0.trans (Drew.own hd); clear hd) | (go_at_call 11; with_reducible refine (awake_any C _ (mxo M g0)).mono ?_; rintro e w9 ⟨rfl, hq⟩; replace g0 := g0.trans hq; clear hq))
      go_ret
      exact ⟨rfl, g0⟩
    · have gb : (g != 0) = true := bne_iff_ne.2 g1
      have gb2 : (g == 0) = false := beq_eq_false_iff_ne.2 g1
      have HGV := Lib.hid (lines_zero (s := bs t) (by rw [hg]; exact g1))
      clear hf hg hb hb2
      go_enter Tryd.func7, Tryd.ntmps7
      go_upto_region 4 with (go_at_call 17; with_reducible refine (clines C s 0 _ HS.out HF (mxo M g0)).mono ?_; rintro e w1 ⟨M1, n1, A1, c1, rfl, hn1, hp1, hl1, hg⟩; replace g0 := g0.trans hg; clear hg)
      clear hp1 hl1 hn1
      go_upto_region 5 with (go_at_call 17; with_reducible refine (clines C t g _ HT.out HG (mxo M g0)).mono ?_; rintro e w2 ⟨M2, n2, A2, c2, rfl, hn2, hp2, hl2, hg⟩; replace g0 := g0.trans hg; clear hg)
      rw [HGV.out] at hl2
      obtain rfl := map_nil_of hl2
      obtain rfl : n2 = 0 := hn2.symm
      clear hp2 hl2
      go_wp2_with (go_at_call 11; with_reducible refine (awake_any C _ (mxo M g0)).mono ?_; rintro e w9 ⟨rfl, hq⟩; replace g0 := g0.trans hq; clear hq)
      go_ret
      exact ⟨rfl, g0⟩
  · have fb : (f != 0) = true := bne_iff_ne.2 f0
    have fb2 : (f == 0) = false := beq_eq_false_iff_ne.2 f0
    have HFV := Lib.hid (lines_zero (s := bs s) (by rw [hf]; exact f0))
    by_cases g1 : g = 0
    · subst g1
      clear hf hg hb hb2
      go_enter Tryd.func7, Tryd.ntmps7
      go_upto_region 4 with (go_at_call 17; with_reducible refine (clines C s f _ HS.out HF (mxo M g0)).mono ?_; rintro e w1 ⟨M1, n1, A1, c1, rfl, hn1, hp1, hl1, hg⟩; replace g0 := g0.trans hg; clear hg)
      rw [HFV.out] at hl1
      obtain rfl := map_nil_of hl1
      obtain rfl : n1 = 0 := hn1.symm
      clear hp1 hl1
      go_upto_region 5 with (go_at_call 17; with_reducible refine (clines C t 0 _ HT.out HG (mxo M g0)).mono ?_; rintro e w2 ⟨M2, n2, A2, c2, rfl, hn2, hp2, hl2, hg⟩; replace g0 := g0.trans hg; clear hg)
      clear hp2 hl2 hn2
      go_wp2_with (go_at_call 11; with_reducible refine (awake_any C _ (mxo M g0)).mono ?_; rintro e w9 ⟨rfl, hq⟩; replace g0 := g0.trans hq; clear hq)
      go_ret
      exact ⟨rfl, g0⟩
    · have gb : (g != 0) = true := bne_iff_ne.2 g1
      have gb2 : (g == 0) = false := beq_eq_false_iff_ne.2 g1
      have HGV := Lib.hid (lines_zero (s := bs t) (by rw [hg]; exact g1))
      clear hf hg hb hb2
      go_enter Tryd.func7, Tryd.ntmps7
      go_upto_region 4 with (go_at_call 17; with_reducible refine (clines C s f _ HS.out HF (mxo M g0)).mono ?_; rintro e w1 ⟨M1, n1, A1, c1, rfl, hn1, hp1, hl1, hg⟩; replace g0 := g0.trans hg; clear hg)
      rw [HFV.out] at hl1
      obtain rfl := map_nil_of hl1
      obtain rfl : n1 = 0 := hn1.symm
      clear hp1 hl1
      go_upto_region 5 with (go_at_call 17; with_reducible refine (clines C t g _ HT.out HG (mxo M g0)).mono ?_; rintro e w2 ⟨M2, n2, A2, c2, rfl, hn2, hp2, hl2, hg⟩; replace g0 := g0.trans hg; clear hg)
      rw [HGV.out] at hl2
      obtain rfl := map_nil_of hl2
      obtain rfl : n2 = 0 := hn2.symm
      clear hp2 hl2
      go_wp2_with (go_at_call 11; with_reducible refine (awake_any C _ (mxo M g0)).mono ?_; rintro e w9 ⟨rfl, hq⟩; replace g0 := g0.trans hq; clear hq)
      go_ret
      exact ⟨rfl, g0⟩
end Go.Proofs.YtedkpkdfopffiaaDoor.NamW
