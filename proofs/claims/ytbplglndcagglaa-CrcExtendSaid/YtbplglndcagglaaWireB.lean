/-
  Walks of the specification of package wire: last. Condition: none.
-/
import Derived.Test.YtbplglndcagglaaWireA
import Derived.Test.YtbplglndcagglaaWirePlainB
namespace Go.Proofs.Ytbplglndcagglaa.WirW
open Go.ChangeShapes Go.WideShapes Go.ChangeAt Go.RowKit
open PairW CelW WirP
theorem cel_cells {w : World} {v : Value} {b : Bs} (h : Cel w v (cellsU b)) : ∃ A cap, v = .slice A b.length cap ∧ b.length ≤ cap ∧ cap ≤ maxLen ∧ (0 < b.length → ∃ g off : Nat, A = some ⟨g, off, none⟩ ∧ ∀ i (hi : i < b.length), w.cell? ⟨g, off + i, none⟩ = some (.int .u8 (b[i].toNat : Int))) := by
  obtain ⟨A, cap, h1, h2, h3, h4⟩ := h
  rw [cellsU_len] at h1 h2 h4
  refine ⟨A, cap, h1, h2, h3, fun h0 => ?_⟩
  obtain ⟨g, off, h5, h6⟩ := h4 h0
  exact ⟨g, off, h5, fun i hi => h6 i _ (cellsU_at hi)⟩
/-- What last returns: the place of the first byte below 128. -/
def LastIs (b : Bs) (r : Int) : Prop := (r = -1 ∧ ∀ j, ∀ hj : j < b.length, 128 ≤ b[j].toNat) ∨ ∃ i : Nat, r = i ∧ ∃ h : i < b.length, b[i].toNat < 128 ∧ ∀ j, j < i → ∀ hj : j < b.length, 128 ≤ b[j].toNat
set_option maxRecDepth 100000 in
theorem last_at (b : Bs) (v : Value) (w : World) (HB : Hid (Cel w v (cellsU b))) :
    Calls Try.prog 40 #[v] w fun e w' => ∃ r, e = .returned (.int .i64 r) ∧ LastIs b r ∧ w = w' := by
  obtain ⟨A, cap, rfl, h1, h2, h3⟩ := cel_cells HB.out
  unfold maxLen at h2
  have HC := Lib.hid h3
  clear h3 HB
  obtain ⟨n, hn⟩ : ∃ n, b.length = n := ⟨_, rfl⟩
  have HN := Lib.hid hn
  rw [hn] at h1 ⊢
  have HC2 := Lib.hid (fun (h : 0 < n) => HC.out (by rw [hn]; exact h))
  clear hn HC
  go_enter Try.func40, Try.ntmps40
  go_wp2
  go_loop [3] (fun i => ∃ k : Nat, i = .int .i64 (k : Int) ∧ k ≤ n ∧ ∀ j, j < k → ∀ hj : j < b.length, 128 ≤ b[j].toNat) (fun i => n - (intOf i).toNat)
  case atStart => exact ⟨0, rfl, Nat.zero_le _, fun j hj => absurd hj (Nat.not_lt_zero _)⟩
  case round =>
    obtain ⟨k, rfl, hk, hok⟩ := hrel
    have HOK := Lib.hid hok
    clear hok
    by_cases hlt : k < n
    · obtain ⟨g, off, rfl, hc⟩ := HC2.out (by omega)
      have hkb : k < b.length := by rw [HN.out]; exact hlt
      have e0 := hc k hkb
      clear hc
      have hkn : (k : Int) < n := by omega
      obtain ⟨x, hx⟩ : ∃ x, b[k].toNat = x := ⟨_, rfl⟩
      rw [hx] at e0
      by_cases c : x < 128
      · have ci : (x : Int) < 128 := by omega
        have HR : Hid (LastIs b (k : Int)) := Lib.hid (.inr ⟨k, rfl, hkb, by rw [hx]; exact c, HOK.out⟩)
        clear hx hkb
        go_wp2
        go_ret
        exact ⟨_, rfl, HR.out, rfl⟩
      · have ci : ¬ (x : Int) < 128 := by omega
        have HX := Lib.hid (show ∀ hj : k < b.length, 128 ≤ b[k].toNat from fun _ => by rw [hx]; omega)
        clear hx hkb
        go_wp2
        go_round
        case rel => exact ⟨k + 1, by go_num, hlt, fun j hj => by
            by_cases e : j = k
            · subst e; exact HX.out
            · exact HOK.out j (by omega)⟩
        case measure => simp [intOf]; omega
    · obtain rfl : n = k := by omega
      have HR : Hid (LastIs b (-1)) := Lib.hid (.inl ⟨rfl, fun j hj => HOK.out j (by rw [← HN.out]; exact hj) hj⟩)
      go_wp2
      go_ret
      exact ⟨_, rfl, HR.out, rfl⟩
end Go.Proofs.Ytbplglndcagglaa.WirW
