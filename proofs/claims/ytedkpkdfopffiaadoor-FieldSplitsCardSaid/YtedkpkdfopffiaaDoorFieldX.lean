/-
  Plain facts of package field: the chapter's examples. No word of the program. Condition: none.
-/
import Derived.Test.YtedkpkdfopffiaaDoorFieldPlain
namespace Go.Proofs.YtedkpkdfopffiaaDoor.FldP
open NamP
def exWant : List Bs := [[97], [], [105, 116, 39, 115], [39, 120], [98, 32, 99]]
def exLine : Bs := [97, 32, 39, 39, 32, 105, 116, 39, 115, 32, 39, 39, 39, 120, 39, 32, 39, 98, 32, 99, 39]
theorem ex_join : joinE exWant = 0 ∧ joinB exWant = exLine := by decide
theorem ex_joinV : joinV exWant = exLine := by unfold joinV; rw [if_pos ex_join.1, ex_join.2]
theorem ex_split : splitE exLine = 0 ∧ splitV exLine = exWant := by
  have := split_join ex_join.1
  rwa [ex_join.2] at this
theorem split_not {s : Bs} {l : Option (List Bs)} (h : cutB s = l) (h1 : ¬ 1024 < s.length) (h2 : ∀ L, l = some L → ¬ (joinE L = 0 ∧ joinB L = s)) : splitE s = 2 ∧ splitV s = [] := by
  have hr : splitR s = none := by
    unfold splitR
    rw [h]
    cases l with
    | none => rfl
    | some L =>
      show (if _ then _ else _) = _
      rw [if_neg (h2 L rfl)]
  have he : splitE s = 2 := by
    unfold splitE
    rw [if_neg h1, hr]
    rfl
  exact ⟨he, by unfold splitV; rw [he, if_neg (by decide)]⟩
theorem ex_two : splitE [97, 32, 32, 98] = 2 ∧ splitV [97, 32, 32, 98] = [] := by
  refine split_not (l := none) ?_ (by decide) (fun L h => by cases h)
  rw [cut_step (by decide) (show takeB [97, 32, 32, 98] = some ([97], [32, 32, 98]) by decide)]
  rw [show List.tail [32, 32, 98] = ([32, 98] : Bs) from rfl, cut_none (by decide) (show takeB [32, 98] = none by decide)]
  rfl
theorem ex_quote : splitE [39, 97, 39] = 2 ∧ splitV [39, 97, 39] = [] := by
  refine split_not (l := some [[97]]) ?_ (by decide) (fun L h => by injection h with h; subst h; decide)
  rw [cut_step (by decide) (show takeB [39, 97, 39] = some ([97], []) by decide)]
  rw [show List.tail [] = ([] : Bs) from rfl, cut_nil]
  rfl
theorem ex_none : splitE [] = 0 ∧ splitV [] = [] := by
  have := split_join (l := []) (by decide)
  exact this
theorem ex_blank : splitE [97, 32] = 2 ∧ splitV [97, 32] = [] := by
  refine split_not (l := some [[97]]) ?_ (by decide) (fun L h => by injection h with h; subst h; decide)
  rw [cut_step (by decide) (show takeB [97, 32] = some ([97], [32]) by decide)]
  rw [show List.tail [32] = ([] : Bs) from rfl, cut_nil]
  rfl
theorem ex_ab : splitE [97, 32, 98] = 0 ∧ splitV [97, 32, 98] = [[97], [98]] := by
  have := split_join (l := [[97], [98]]) (by decide)
  exact this
theorem ex_d : splitE [100] = 0 ∧ splitV [100] = [[100]] := by
  have := split_join (l := [[100]]) (by decide)
  exact this
def exText : Bs := [97, 32, 98, 10, 10, 37, 32, 99, 10, 100, 10]
theorem ex_linesOf : linesOf exText = [[97, 32, 98], [100]] := by decide
theorem ex_lines : linesE exText = 0 ∧ linesV exText = [[[97], [98]], [[100]]] := by
  have e : linesE exText = 0 := by
    unfold linesE
    rw [if_neg (by decide), ex_linesOf]
    show (if splitE [97, 32, 98] ≠ 0 then _ else (if splitE [100] ≠ 0 then _ else 0)) = (0 : Int)
    rw [ex_ab.1, ex_d.1]
    rfl
  refine ⟨e, ?_⟩
  unfold linesV
  rw [if_pos e, ex_linesOf]
  show [splitV [97, 32, 98], splitV [100]] = _
  rw [ex_ab.2, ex_d.2]
theorem ex_form : linesE [97] = 2 ∧ linesV [97] = [] := by
  have e : linesE [97] = 2 := by unfold linesE; rw [if_pos (by decide)]
  exact ⟨e, by unfold linesV; rw [e, if_neg (by decide)]⟩
theorem ex_n1 : numberV [45, 49, 50] = -12 ∧ numberE [45, 49, 50] = 0 := by decide
theorem ex_n2 : numberV [48, 48, 55] = 0 ∧ numberE [48, 48, 55] = 2 := by decide
theorem ex_n3 : numberV [45, 48] = 0 ∧ numberE [45, 48] = 2 := by decide
theorem ex_n4 : numberV [49, 49, 50, 53, 56, 57, 57, 57, 48, 54, 56, 52, 50, 54, 50, 53] = 0 ∧ numberE [49, 49, 50, 53, 56, 57, 57, 57, 48, 54, 56, 52, 50, 54, 50, 53] = 1 := by decide
/-- A line between two texts that says nothing. -/
def exMid : Bs := [10, 37, 32, 110, 111, 110, 101, 10]
theorem ex_mid : linesE exMid = 0 ∧ linesV exMid = [] := by
  have h : linesOf exMid = [] := by decide
  have e : linesE exMid = 0 := by
    unfold linesE
    rw [if_neg (by decide), h]
    rfl
  exact ⟨e, by unfold linesV; rw [if_pos e, h]; rfl⟩
/-- How many fields a line has at most, and how long they are. -/
theorem join_count : ∀ (l : List Bs), l.length ≤ (joinB l).length + 1
  | [] => Nat.zero_le _
  | [x] => by simp
  | x :: y :: r => by
    have ih := join_count (y :: r)
    show (x :: y :: r).length ≤ (writtenB x ++ 32 :: joinB (y :: r)).length + 1
    have h1 : (32 :: joinB (y :: r)).length = (joinB (y :: r)).length + 1 := rfl
    have h2 : (x :: y :: r).length = (y :: r).length + 1 := rfl
    rw [List.length_append]
    omega
theorem fields_short : ∀ {l : List Bs}, fieldsE l = 0 → ∀ x ∈ l, x.length ≤ 256
  | [], _, x, h => by cases h
  | y :: r, he, x, h => by
    have he : (if 256 < y.length then (3 : Int) else if okB y then fieldsE r else 2) = 0 := he
    by_cases c : 256 < y.length
    · rw [if_pos c] at he; cases he
    · rw [if_neg c] at he
      by_cases d : okB y = true
      · rw [if_pos d] at he
        rcases List.mem_cons.1 h with rfl | h
        · omega
        · exact fields_short he x h
      · rw [if_neg d] at he; cases he
theorem split_small {s : Bs} (h : splitE s = 0) (hs : s.length ≤ 1100) : (splitV s).length ≤ 1101 ∧ ∀ x ∈ splitV s, x.length ≤ 256 := by
  obtain ⟨h1, h2⟩ := split_ok h
  refine ⟨?_, fields_short ?_⟩
  · have := join_count (splitV s)
    rw [h2] at this
    omega
  · unfold joinE at h1
    by_cases c : fieldsE (splitV s) ≠ 0
    · rw [if_pos c] at h1; exact h1
    · exact Classical.not_not.1 c
end Go.Proofs.YtedkpkdfopffiaaDoor.FldP
