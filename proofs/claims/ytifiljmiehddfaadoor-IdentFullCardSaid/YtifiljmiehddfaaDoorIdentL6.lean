/-
  Walk of the law IdentNumbers. Condition: none.
-/
import Derived.Test.YtifiljmiehddfaaDoorIdentM
namespace Go.Proofs.YtifiljmiehddfaaDoor.NamW
open Go.ChangeShapes Go.WideShapes Go.ChangeAt Go.RowKit
open PairW NamP StrW
open Go.Lib (decDigits)
def zs (k : Nat) : ByteArray := ⟨(110 :: List.replicate k 48).toArray⟩
theorem zs_size (k : Nat) : (zs k).size = k + 1 := by
  show (110 :: List.replicate k (48 : UInt8)).toArray.size = k + 1
  simp
theorem bs_zs (k : Nat) : bs (zs k) = 110 :: List.replicate k 48 := rfl
theorem zs_zero : zs 0 = ⟨#[110]⟩ := rfl
theorem zs_succ (k : Nat) : zs k ++ ⟨#[48]⟩ = zs (k + 1) := by
  apply Go.WideShapes.bytes_inj
  show bs (zs k ++ ⟨#[48]⟩) = bs (zs (k + 1))
  rw [bs_append, bs_zs, bs_zs, List.replicate_succ']
  rfl
theorem dec_size {n : Nat} (h : n < 4294967296) : (decS n).size ≤ 10 := by
  show (decDigits n).toArray.size ≤ 10
  rw [List.size_toArray]
  exact dec_len 9 n (by omega)
set_option maxRecDepth 100000 in
set_option maxHeartbeats 4000000 in
theorem IdentNumbers_walk {T : World → (Nat → Prop) → Nat → Ss → Prop} (C : IdentC T) (x y z : Nat) (w : World) (hx : x < 4294967296) (hy : y < 4294967296) (HT : Hid (PowTab w)) :
    Calls Tryd.prog 6 #[.int .u32 x, .int .u32 y, .int .u8 z] w fun e w' => e = .returned (.bool true) ∧ Own w w' := by
  have HX := Lib.hid hx
  have HY := Lib.hid hy
  have sx := dec_size hx
  have sy := dec_size hy
  obtain ⟨dx, hdx⟩ : ∃ d, decS x = d := ⟨_, rfl⟩
  obtain ⟨dy, hdy⟩ : ∃ d, decS y = d := ⟨_, rfl⟩
  have bx : bs dx = decDigits x := by rw [← hdx]; rfl
  have by' : bs dy = decDigits y := by rw [← hdy]; rfl
  rw [hdx] at sx
  rw [hdy] at sy
  have SX := Lib.hid sx
  have SY := Lib.hid sy
  have HDX := Lib.hid hdx
  have HDY := Lib.hid hdy
  obtain ⟨a, ha⟩ : ∃ a, (⟨#[110]⟩ ++ dx : ByteArray) = a := ⟨_, rfl⟩
  obtain ⟨b, hb⟩ : ∃ a, (⟨#[110]⟩ ++ dy : ByteArray) = a := ⟨_, rfl⟩
  obtain ⟨m, hm⟩ : ∃ m, z % 10 = m := ⟨_, rfl⟩
  obtain ⟨c, hc⟩ : ∃ c, (zs m ++ dy : ByteArray) = c := ⟨_, rfl⟩
  obtain ⟨a1, ha1⟩ : ∃ c, (a ++ ⟨#[45, 49]⟩ : ByteArray) = c := ⟨_, rfl⟩
  obtain ⟨a2, ha2⟩ : ∃ c, (a ++ ⟨#[97]⟩ : ByteArray) = c := ⟨_, rfl⟩
  have hm9 : m ≤ 9 := by omega
  have ba : bs a = 110 :: decDigits x := by rw [← ha, bs_append, bx]; rfl
  have bb : bs b = 110 :: decDigits y := by rw [← hb, bs_append, by']; rfl
  have bc : bs c = 110 :: (List.replicate m 48 ++ decDigits y) := by rw [← hc, bs_append, bs_zs, by']; rfl
  have b1 : bs a1 = 110 :: decDigits x ++ [45, 49] := by rw [← ha1, bs_append, ba]
  have b2 : bs a2 = 110 :: decDigits x ++ [97] := by rw [← ha2, bs_append, ba]
  obtain ⟨gx, vx, nx⟩ := dec_val x
  obtain ⟨gy, vy, ny⟩ := dec_val y
  have lx : (decDigits x).length ≤ 10 := dec_len 9 x (by omega)
  have ly : (decDigits y).length ≤ 10 := dec_len 9 y (by omega)
  have sz : ∀ s : ByteArray, s.size = (bs s).length := fun s => (bs_len s).symm
  have SA : Hid (a.size ≤ maxLen) := Lib.hid (by rw [sz, ba]; unfold maxLen; simp; omega)
  have SB : Hid (b.size ≤ maxLen) := Lib.hid (by rw [sz, bb]; unfold maxLen; simp; omega)
  have SC : Hid (c.size ≤ maxLen) := Lib.hid (by rw [sz, bc]; unfold maxLen; simp; omega)
  have S1 : Hid (a1.size ≤ maxLen) := Lib.hid (by rw [sz, b1]; unfold maxLen; simp; omega)
  have S2 : Hid (a2.size ≤ maxLen) := Lib.hid (by rw [sz, b2]; unfold maxLen; simp; omega)
  have VA : Hid (vldB (bs a) = true) := Lib.hid (by rw [ba]; exact vld_num gx (by omega))
  obtain ⟨t, ht⟩ : ∃ t, decide (x < y) = t := ⟨_, rfl⟩
  have LAB : Hid (lessB (bs a) (bs b) = t) := Lib.hid (by
    rw [ba, bb, less_nums gx gy nx ny (by omega) (by omega), vx, vy, ← ht, decide_eq_decide]
    constructor
    · rintro (h | ⟨h, k⟩)
      · omega
      · subst h; omega
    · intro h; left; omega)
  have gz : Digs (List.replicate m 48 ++ decDigits y) := digs_zeros m gy
  have nz : List.replicate m 48 ++ decDigits y ≠ [] := by simp [ny]
  have lz : (List.replicate m (48 : UInt8) ++ decDigits y).length = m + (decDigits y).length := by simp
  have LAC : Hid (x ≠ y → lessB (bs a) (bs c) = t) := Lib.hid (fun hne => by
    rw [ba, bc, less_nums gx gz nx nz (by omega) (by omega), val_zeros, vx, vy, ← ht, decide_eq_decide]
    constructor
    · rintro (h | ⟨h, k⟩)
      · omega
      · exact absurd h hne
    · intro h; left; omega)
  have LBC : Hid (0 < m → lessB (bs b) (bs c) = true) := Lib.hid (fun h0 => by
    rw [bb, bc, less_nums gy gz ny nz (by omega) (by omega), val_zeros, vy, lz]
    exact decide_eq_true (.inr ⟨rfl, by omega⟩))
  have LCB : Hid (0 < m → lessB (bs c) (bs b) = false) := Lib.hid (fun h0 => less_asymm (LBC.out h0))
  have L1 : Hid (lessB (bs a) (bs a1) = true) := Lib.hid (by rw [ba, b1]; exact less_dash gx nx (by omega))
  have L2 : Hid (lessB (bs a1) (bs a2) = true) := Lib.hid (by rw [b1, b2]; exact less_da gx nx (by omega))
  have n1 : ¬ (9223372036854775807 < 1 + dx.size) := by omega
  have n2 : ¬ (9223372036854775807 < 1 + dy.size) := by omega
  have n3 : ¬ (9223372036854775807 < (zs m).size + dy.size) := by rw [zs_size]; omega
  have n4 : ¬ (9223372036854775807 < a.size + 2) := by rw [sz, ba]; simp; omega
  have n5 : ¬ (9223372036854775807 < a.size + 1) := by rw [sz, ba]; simp; omega
  have HM := Lib.hid hm
  have HM9 := Lib.hid hm9
  clear hdx hdy bx by' sx sy hm hm9 ba bb bc b1 b2 gx vx nx gy vy ny lx ly sz gz nz lz hx hy
  have hzi : (z : Int) % 10 = (m : Int) := by have := HM.out; omega
  have k1 : IntKind.i64.wrap (x : Int) = x := IntWalk.i64_in _ (by have := HX.out; omega)
  have k2 : IntKind.i64.wrap (y : Int) = y := IntWalk.i64_in _ (by have := HY.out; omega)
  have g := Own.refl w
  go_enter Tryd.func6, Tryd.ntmps6
  go_upto_region 4 with (first
    | (go_at_call 19; with_reducible refine (itoa_at x dx _ HX.out (Lib.hid (HT.out.own g)) HDX).mono ?_; rintro e w1 ⟨rfl, hg⟩; replace g := g.trans hg; clear hg)
    | (go_at_call 19; with_reducible refine (itoa_at y dy _ HY.out (Lib.hid (HT.out.own g)) HDY).mono ?_; rintro e w1 ⟨rfl, hg⟩; replace g := g.trans hg; clear hg)
    | (go_at_call 11; with_reducible refine (C.valid a true _ SA.out VA).mono ?_; rintro e w1 ⟨rfl, hg⟩; replace g := g.trans hg; clear hg)
    | (go_at_call 14; with_reducible refine (C.less a b t _ SA.out SB.out LAB).mono ?_; rintro e w1 ⟨rfl, hg⟩; replace g := g.trans hg; clear hg))
  have HG := Lib.hid g
  clear g
  go_wp2
  generalize w1 = w2 at *
  go_loopw [9, 10] (fun vc vi wr => ∃ k : Nat, vi = .int .i64 k ∧ k ≤ m ∧ wr = w2 ∧ vc = .string (zs k)) (fun _ vi _ => m - (intOf vi).toNat)
  case atStart => exact ⟨0, rfl, Nat.zero_le _, rfl, rfl⟩
  case round =>
    obtain ⟨k, rfl, hk, rfl, rfl⟩ := hrel
    by_cases hlt : k < m
    · have n6 : ¬ (9223372036854775807 < (zs k).size + 1) := by rw [zs_size]; omega
      have hlt' : (k : Int) < m := by omega
      have e6 := zs_succ k
      go_wp2
      go_roundw
      case rel => exact ⟨k + 1, by go_num, hlt, by first | rfl | trivial, by first | rfl | trivial⟩
      case measure => simp [intOf]; omega
    · obtain rfl : m = k := by omega
      clear hlt hk
      have g := HG.out
      by_cases hxy : x = y
      · have hxy' : (x : Int) = y := by omega
        by_cases h0 : 0 < m
        · have B1 := Lib.hid (LBC.out h0)
          have B2 := Lib.hid (LCB.out h0)
          have h0' : (0 : Int) < m := by omega
          go_wp2_with (first
            | (go_at_call 19; with_reducible refine (itoa_at y dy _ HY.out (Lib.hid (HT.out.own g)) HDY).mono ?_; rintro e w1 ⟨rfl, hg⟩; replace g := g.trans hg; clear hg)
            | (go_at_call 14; (first | (with_reducible refine (C.less b c true _ SB.out SC.out B1).mono ?_) | (with_reducible refine (C.less c b false _ SC.out SB.out B2).mono ?_) | (with_reducible refine (C.less a a1 true _ SA.out S1.out L1).mono ?_) | (with_reducible refine (C.less a1 a2 true _ S1.out S2.out L2).mono ?_)); rintro e w1 ⟨rfl, hg⟩; replace g := g.trans hg; clear hg)
            | (go_at_call 13; refine (awake_any C _).mono ?_; rintro e w1 ⟨rfl, hg⟩; replace g := g.trans hg; clear hg))
          go_ret
          exact ⟨rfl, g⟩
        · have h0' : ¬ (0 : Int) < m := by omega
          go_wp2_with (first
            | (go_at_call 19; with_reducible refine (itoa_at y dy _ HY.out (Lib.hid (HT.out.own g)) HDY).mono ?_; rintro e w1 ⟨rfl, hg⟩; replace g := g.trans hg; clear hg)
            | (go_at_call 14; (first | (with_reducible refine (C.less a a1 true _ SA.out S1.out L1).mono ?_) | (with_reducible refine (C.less a1 a2 true _ S1.out S2.out L2).mono ?_)); rintro e w1 ⟨rfl, hg⟩; replace g := g.trans hg; clear hg)
            | (go_at_call 13; refine (awake_any C _).mono ?_; rintro e w1 ⟨rfl, hg⟩; replace g := g.trans hg; clear hg))
          go_ret
          exact ⟨rfl, g⟩
      · have hxy' : ¬ (x : Int) = y := by omega
        have A1 := Lib.hid (LAC.out hxy)
        by_cases h0 : 0 < m
        · have B1 := Lib.hid (LBC.out h0)
          have B2 := Lib.hid (LCB.out h0)
          have h0' : (0 : Int) < m := by omega
          go_wp2_with (first
            | (go_at_call 19; with_reducible refine (itoa_at y dy _ HY.out (Lib.hid (HT.out.own g)) HDY).mono ?_; rintro e w1 ⟨rfl, hg⟩; replace g := g.trans hg; clear hg)
            | (go_at_call 14; (first | (with_reducible refine (C.less b c true _ SB.out SC.out B1).mono ?_) | (with_reducible refine (C.less c b false _ SC.out SB.out B2).mono ?_) | (with_reducible refine (C.less a a1 true _ SA.out S1.out L1).mono ?_) | (with_reducible refine (C.less a1 a2 true _ S1.out S2.out L2).mono ?_) | (with_reducible refine (C.less a c t _ SA.out SC.out A1).mono ?_)); rintro e w1 ⟨rfl, hg⟩; replace g := g.trans hg; clear hg)
            | (go_at_call 13; refine (awake_any C _).mono ?_; rintro e w1 ⟨rfl, hg⟩; replace g := g.trans hg; clear hg))
          go_ret
          exact ⟨rfl, g⟩
        · have h0' : ¬ (0 : Int) < m := by omega
          go_wp2_with (first
            | (go_at_call 19; with_reducible refine (itoa_at y dy _ HY.out (Lib.hid (HT.out.own g)) HDY).mono ?_; rintro e w1 ⟨rfl, hg⟩; replace g := g.trans hg; clear hg)
            | (go_at_call 14; (first | (with_reducible refine (C.less a a1 true _ SA.out S1.out L1).mono ?_) | (with_reducible refine (C.less a1 a2 true _ S1.out S2.out L2).mono ?_) | (with_reducible refine (C.less a c t _ SA.out SC.out A1).mono ?_)); rintro e w1 ⟨rfl, hg⟩; replace g := g.trans hg; clear hg)
            | (go_at_call 13; refine (awake_any C _).mono ?_; rintro e w1 ⟨rfl, hg⟩; replace g := g.trans hg; clear hg))
          go_ret
          exact ⟨rfl, g⟩
end Go.Proofs.YtifiljmiehddfaaDoor.NamW
