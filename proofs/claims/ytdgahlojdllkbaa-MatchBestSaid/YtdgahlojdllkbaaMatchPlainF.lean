/-
  The chapter's examples of matchings. No word of the program. Condition: none.
-/
import Derived.Test.YtdgahlojdllkbaaMatchPlainD
namespace Go.Proofs.Ytdgahlojdllkbaa.MchP
/-- No matching has more edges than a cover has rows and columns. -/
theorem cover_le {P : Nat → Nat → Prop} {E : List (Nat × Nat)} (h : PM P E) (A B : List Nat) (hc : ∀ i c, P i c → i ∈ A ∨ c ∈ B) : E.length ≤ A.length + B.length := by
  have := rel_le (fun (e : Nat × Nat) (b : Nat ⊕ Nat) => b = .inl e.1 ∨ b = .inr e.2) E (A.map .inl ++ B.map .inr) h.nd (fun e he => ?_) (fun a ha b hb x q r => ?_)
  · rwa [List.length_append, List.length_map, List.length_map] at this
  · rcases hc e.1 e.2 (h.ok e he) with q | q
    · exact ⟨.inl e.1, List.mem_append_left _ (List.mem_map.2 ⟨_, q, rfl⟩), .inl rfl⟩
    · exact ⟨.inr e.2, List.mem_append_right _ (List.mem_map.2 ⟨_, q, rfl⟩), .inr rfl⟩
  · rcases q with q | q <;> rcases r with r | r
    · rw [q] at r
      injection r with r
      exact h.row a ha b hb r
    · rw [q] at r
      cases r
    · rw [q] at r
      cases r
    · rw [q] at r
      injection r with r
      exact h.col a ha b hb r
theorem mx_of {l : List (List Bool)} {m : List Int} (h : IsP l m) (A B : List Nat) (hz : sz m = A.length + B.length) (hc : ∀ i c, Pl l i c → i ∈ A ∨ c ∈ B) : Mx (Pl l) (sz m) :=
  ⟨⟨edg m, h.pm, edg_len m⟩, fun E hE => by rw [hz]; exact cover_le hE A B hc⟩
theorem not_ext {l : List (List Bool)} {p : List Int} {n : Nat} (hp : IsP l p) (hn : Mx (Pl l) n) (A B : List Nat) (hc : ∀ i c, Rst l p i c → i ∈ A ∨ c ∈ B) (hlt : sz p + A.length + B.length < n) : ¬ Ext l p := by
  rintro ⟨E, h1, h2, h3⟩
  obtain ⟨F, f1, f2, _⟩ := split hp h1 h3
  have h4 := cover_le f1 A B hc
  obtain ⟨⟨G, g1, g2⟩, _⟩ := hn
  have h5 := h2 G g1
  omega
theorem ch_more {l : List (List Bool)} {p m : List Int} {x : Int} {n k : Nat} (h : Ch l p) (hm : IsP l m) (hn : Mx (Pl l) n) (hz : sz m = n) (hk : m.take k = p ++ [x]) (hx : -1 ≤ x) (hb : ∀ y : Nat, bt y x → ¬ Ext l (p ++ [(y : Int)])) : Ch l (p ++ [x]) := by
  refine h.snoc ⟨hx, by rw [← hk]; exact ext_take hm hn hz k, fun y hy h2 => ?_⟩
  obtain ⟨c, rfl⟩ : ∃ c : Nat, y = (c : Int) := ⟨y.toNat, by have := hy.1; omega⟩
  exact hb c hy h2
def t3 : List (List Bool) := [[true, true, false], [true, false, false], [false, true, true]]
def t2 : List (List Bool) := [[true, false], [true, false], [false, true]]
def t0 : List (List Bool) := [[], [], []]
def tb : List (List Bool) := [[true], []]
theorem sq3 : Sq t3 := by unfold Sq; decide
theorem sq2 : Sq t2 := by unfold Sq; decide
theorem sq0 : Sq t0 := by unfold Sq; decide
theorem ck3 : chkE t3 = 0 := by decide
theorem ck2 : chkE t2 = 0 := by decide
theorem ck0 : chkE t0 = 0 := by decide
theorem ckb : chkE tb = 2 := by decide
theorem is3 : IsP t3 [1, 0, 2] := (((isP_nil t3).snoc (c := 1) (by decide) (by decide)).snoc (c := 0) (by decide) (by decide)).snoc (c := 2) (by decide) (by decide)
theorem is2 : IsP t2 [0, -1, 1] := (((isP_nil t2).snoc (c := 0) (by decide) (by decide)).snoc').snoc (c := 1) (by decide) (by decide)
theorem is2' : IsP t2 [-1, 0, 1] := (((isP_nil t2).snoc').snoc (c := 0) (by decide) (by decide)).snoc (c := 1) (by decide) (by decide)
theorem is0 : IsP t0 [-1, -1, -1] := (((isP_nil t0).snoc').snoc').snoc'
theorem in3 {i c : Nat} (h : at2 t3 i c = true) : i < 3 ∧ c < 3 := ⟨at2_row h, at2_col sq3 h⟩
theorem in2 {i c : Nat} (h : at2 t2 i c = true) : i < 3 ∧ c < 2 := ⟨at2_row h, at2_col sq2 h⟩
theorem in0 {i c : Nat} (h : at2 t0 i c = true) : False := by
  have : c < 0 := at2_col sq0 h
  omega
theorem mx3 : Mx (Pl t3) 3 := mx_of is3 [0, 1, 2] [] (by decide) fun i c h => by
  have := (in3 h).1
  simp
  omega
theorem mx2 : Mx (Pl t2) 2 := mx_of is2 [] [0, 1] (by decide) fun i c h => by
  have := (in2 h).2
  simp
  omega
theorem mx0 : Mx (Pl t0) 0 := mx_of is0 [] [] (by decide) fun i c h => (in0 h).elim
theorem is3a : IsP t3 [0] := (isP_nil t3).snoc (c := 0) (by decide) (by decide)
theorem ch3 : Ch t3 [1, 0, 2] := by
  have c1 : Ch t3 ([] ++ [1]) := ch_more (ch_nil t3) is3 mx3 rfl (k := 1) rfl (by omega) fun y hy => by
    obtain rfl : y = 0 := by unfold bt at hy; omega
    refine not_ext is3a mx3 [2] [] (fun i c h => ?_) (by decide)
    obtain ⟨h1, h2, h3⟩ := h
    obtain ⟨hi, hc⟩ := in3 h2
    have h1 : 1 ≤ i := h1
    have h4 : i = 1 ∨ i = 2 := by omega
    rcases h4 with rfl | rfl
    · have h5 : c = 0 ∨ c = 1 ∨ c = 2 := by omega
      rcases h5 with rfl | rfl | rfl
      · exact absurd (by decide) h3
      · exact absurd h2 (by decide)
      · exact absurd h2 (by decide)
    · exact .inl (by decide)
  have c2 : Ch t3 ([1] ++ [0]) := ch_more c1 is3 mx3 rfl (k := 2) rfl (by omega) fun y hy => by unfold bt at hy; omega
  exact ch_more c2 is3 mx3 rfl (k := 3) (x := 2) rfl (by omega) fun y hy h => by
    obtain ⟨h1, h2⟩ := ext_perm h
    have : y = 0 ∨ y = 1 := by unfold bt at hy; omega
    rcases this with rfl | rfl
    · exact absurd h1 (by decide)
    · exact absurd (by decide) h2
theorem ch2 : Ch t2 [0, -1, 1] := by
  have c1 : Ch t2 ([] ++ [0]) := ch_more (ch_nil t2) is2 mx2 rfl (k := 1) rfl (by omega) fun y hy => by unfold bt at hy; omega
  have c2 : Ch t2 ([0] ++ [-1]) := ch_more c1 is2 mx2 rfl (k := 2) rfl (by omega) fun y _ h => by
    obtain ⟨h1, h2⟩ := ext_perm h
    have hy := (in2 h1).2
    have : y = 0 ∨ y = 1 := by omega
    rcases this with rfl | rfl
    · exact absurd (by decide) h2
    · exact absurd h1 (by decide)
  exact ch_more c2 is2 mx2 rfl (k := 3) (x := 1) rfl (by omega) fun y hy h => by
    obtain rfl : y = 0 := by unfold bt at hy; omega
    exact absurd (ext_perm h).1 (by decide)
theorem ch0 : Ch t0 [-1, -1, -1] := by
  have c1 : Ch t0 ([] ++ [-1]) := ch_more (ch_nil t0) is0 mx0 rfl (k := 1) rfl (by omega) fun y _ h => in0 (ext_perm h).1
  have c2 : Ch t0 ([-1] ++ [-1]) := ch_more c1 is0 mx0 rfl (k := 2) rfl (by omega) fun y _ h => in0 (ext_perm h).1
  exact ch_more c2 is0 mx0 rfl (k := 3) (x := -1) rfl (by omega) fun y _ h => in0 (ext_perm h).1
theorem nv3 : nuV t3 = 3 ∧ maV t3 = [1, 0, 2] := (show Best t3 [1, 0, 2] from ⟨is3, rfl, mx3, ch3⟩).vals ck3
theorem nv2 : nuV t2 = 2 ∧ maV t2 = [0, -1, 1] := (show Best t2 [0, -1, 1] from ⟨is2, rfl, mx2, ch2⟩).vals ck2
theorem nv0 : nuV t0 = 0 ∧ maV t0 = [-1, -1, -1] := (show Best t0 [-1, -1, -1] from ⟨is0, rfl, mx0, ch0⟩).vals ck0
end Go.Proofs.Ytdgahlojdllkbaa.MchP
