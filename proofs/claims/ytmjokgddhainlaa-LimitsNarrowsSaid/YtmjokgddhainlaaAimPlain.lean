/-
  Where limbs point, reckoned: checks, targets, ways, mirror images, vectors. Nothing of the program. Condition: none.
-/
import Derived.Test.YtmjokgddhainlaaAngBase
import Derived.Test.YtmjokgddhainlaaDirPlain
namespace Go.Proofs.Ytmjokgddhainlaa.AimP
open NumP AngP
/-! ### Checks -/
def isLimb (l : Int) : Bool := decide (0 ≤ l) && decide (l < 6)
theorem limb_iff (l : Int) : isLimb l = true ↔ 0 ≤ l ∧ l ≤ 5 := by unfold isLimb; rw [Bool.and_eq_true, decide_eq_true_eq, decide_eq_true_eq]; omega
theorem limb_no (l : Int) : isLimb l = false ↔ l < 0 ∨ 5 < l := by rw [← Bool.not_eq_true, limb_iff]; omega
/-- The error of an aim of a limb. -/
def chk (l z e b : Int) : Int :=
  if 0 ≤ l ∧ l ≤ 5 then (if (0 ≤ z ∧ z ≤ 255) ∧ (-64 ≤ e ∧ e ≤ 64) ∧ 0 ≤ b ∧ b ≤ 6 then (if (e = 64 ∨ e = -64) ∧ z ≠ 0 then 2 else 0) else 1) else 9
def poleB (e : Int) : Bool := decide (e = 64) || decide (e = -64)
theorem pole_iff (e : Int) : poleB e = true ↔ e = 64 ∨ e = -64 := by unfold poleB; rw [Bool.or_eq_true, decide_eq_true_eq, decide_eq_true_eq]
theorem pole_no (e : Int) : poleB e = false ↔ e ≠ 64 ∧ e ≠ -64 := by rw [← Bool.not_eq_true, pole_iff]; omega
def trunkB (l : Int) : Bool := decide (l = 2) || decide (l = 5)
theorem trunk_iff (l : Int) : trunkB l = true ↔ l = 2 ∨ l = 5 := by unfold trunkB; rw [Bool.or_eq_true, decide_eq_true_eq, decide_eq_true_eq]
theorem trunk_no (l : Int) : trunkB l = false ↔ l ≠ 2 ∧ l ≠ 5 := by rw [← Bool.not_eq_true, trunk_iff]; omega
theorem chk_yes {l z e b : Int} (h : chk l z e b = 0) : (0 ≤ l ∧ l ≤ 5) ∧ (0 ≤ z ∧ z ≤ 255) ∧ (-64 ≤ e ∧ e ≤ 64) ∧ (0 ≤ b ∧ b ≤ 6) ∧ (e = 64 ∨ e = -64 → z = 0) := by
  unfold chk at h
  by_cases h1 : 0 ≤ l ∧ l ≤ 5
  · rw [if_pos h1] at h
    by_cases h2 : (0 ≤ z ∧ z ≤ 255) ∧ (-64 ≤ e ∧ e ≤ 64) ∧ 0 ≤ b ∧ b ≤ 6
    · rw [if_pos h2] at h
      by_cases h3 : (e = 64 ∨ e = -64) ∧ z ≠ 0
      · rw [if_pos h3] at h; omega
      · exact ⟨h1, h2.1, h2.2.1, h2.2.2, fun x => by omega⟩
    · rw [if_neg h2] at h; omega
  · rw [if_neg h1] at h; omega
theorem chk_ok {l z e b : Int} (h1 : 0 ≤ l ∧ l ≤ 5) (h2 : 0 ≤ z ∧ z ≤ 255) (h3 : -64 ≤ e ∧ e ≤ 64) (h4 : 0 ≤ b ∧ b ≤ 6) (h5 : e = 64 ∨ e = -64 → z = 0) : chk l z e b = 0 := by
  unfold chk
  rw [if_pos h1, if_pos ⟨h2, h3, h4⟩, if_neg (by omega)]
/-! ### Targets -/
def ofE (l d v b : Int) : Int :=
  if 0 ≤ l ∧ l ≤ 5 then (if (0 ≤ d ∧ d ≤ 8) ∧ -1 ≤ v ∧ v ≤ 1 then (if 0 ≤ b ∧ b ≤ 6 then (if d = 0 ∧ (v = 0 ∨ v = -1 ∧ (l = 2 ∨ l = 5)) then 18 else 0) else 1) else 1) else 9
def ofZ (l d v b : Int) : Int := if ofE l d v b = 0 then (if d = 0 then 0 else 32 * (d - 1)) else 0
def ofL (l d v b : Int) : Int := if ofE l d v b = 0 then (if d = 0 then 64 * v else 32 * v) else 0
def ofB (l d v b : Int) : Int := if ofE l d v b = 0 then b else 0
theorem of_yes {l d v b : Int} (h : ofE l d v b = 0) : (0 ≤ l ∧ l ≤ 5) ∧ ((0 ≤ d ∧ d ≤ 8) ∧ -1 ≤ v ∧ v ≤ 1) ∧ (0 ≤ b ∧ b ≤ 6) ∧ (d = 0 → (v = 1 ∨ v = -1) ∧ (v = -1 → l ≠ 2 ∧ l ≠ 5)) := by
  unfold ofE at h
  by_cases h1 : 0 ≤ l ∧ l ≤ 5
  · rw [if_pos h1] at h
    by_cases h2 : (0 ≤ d ∧ d ≤ 8) ∧ -1 ≤ v ∧ v ≤ 1
    · rw [if_pos h2] at h
      by_cases h3 : 0 ≤ b ∧ b ≤ 6
      · rw [if_pos h3] at h
        by_cases h4 : d = 0 ∧ (v = 0 ∨ v = -1 ∧ (l = 2 ∨ l = 5))
        · rw [if_pos h4] at h; omega
        · exact ⟨h1, h2, h3, fun x => by omega⟩
      · rw [if_neg h3] at h; omega
    · rw [if_neg h2] at h; omega
  · rw [if_neg h1] at h; omega
theorem of_ok {l d v b : Int} (h1 : 0 ≤ l ∧ l ≤ 5) (h2 : (0 ≤ d ∧ d ≤ 8) ∧ -1 ≤ v ∧ v ≤ 1) (h3 : 0 ≤ b ∧ b ≤ 6) (h4 : d = 0 → (v = 1 ∨ v = -1) ∧ (v = -1 → l ≠ 2 ∧ l ≠ 5)) : ofE l d v b = 0 := by
  unfold ofE
  rw [if_pos h1, if_pos h2, if_pos h3, if_neg (by omega)]
theorem of_vals {l d v b : Int} (h : ofE l d v b = 0) : ofZ l d v b = (if d = 0 then 0 else 32 * (d - 1)) ∧ ofL l d v b = (if d = 0 then 64 * v else 32 * v) ∧ ofB l d v b = b := by
  unfold ofZ ofL ofB; rw [if_pos h, if_pos h, if_pos h]; exact ⟨rfl, rfl, rfl⟩
theorem of_nul {l d v b : Int} (h : ofE l d v b ≠ 0) : ofZ l d v b = 0 ∧ ofL l d v b = 0 ∧ ofB l d v b = 0 := by
  unfold ofZ ofL ofB; rw [if_neg h, if_neg h, if_neg h]; exact ⟨rfl, rfl, rfl⟩
/-- The target number p is notated. -/
def Hit (l z e b : Int) (p : Nat) : Prop := ofE l (DirP.pD p) (DirP.pL p) b = 0 ∧ ofZ l (DirP.pD p) (DirP.pL p) b = z ∧ ofL l (DirP.pD p) (DirP.pL p) b = e
theorem of_inj {l d v b d' v' : Int} (h : ofE l d v b = 0) (h' : ofE l d' v' b = 0) (hz : ofZ l d v b = ofZ l d' v' b) (he : ofL l d v b = ofL l d' v' b) : d = d' ∧ v = v' := by
  have h1 := of_yes h
  have h2 := of_yes h'
  obtain ⟨e1, e2, _⟩ := of_vals h
  obtain ⟨f1, f2, _⟩ := of_vals h'
  rw [e1, f1] at hz
  rw [e2, f2] at he
  by_cases c : d = 0
  · by_cases c' : d' = 0
    · rw [if_pos c, if_pos c'] at he; omega
    · rw [if_pos c, if_neg c'] at he; omega
  · by_cases c' : d' = 0
    · rw [if_neg c, if_pos c'] at he; omega
    · rw [if_neg c, if_neg c'] at he hz; omega
theorem hit_inj {l z e b : Int} {p q : Nat} (h : Hit l z e b p) (h' : Hit l z e b q) : p = q := by
  obtain ⟨a1, a2, a3⟩ := h
  obtain ⟨b1, b2, b3⟩ := h'
  obtain ⟨x1, x2⟩ := of_inj a1 b1 (a2.trans b2.symm) (a3.trans b3.symm)
  unfold DirP.pD at x1
  unfold DirP.pL at x2
  omega
/-- What an aim is notated as: direction, level, bend and error. -/
def Nt (l z e b d v u c : Int) : Prop :=
  (chk l z e b ≠ 0 ∧ d = 0 ∧ v = 0 ∧ u = 0 ∧ c = chk l z e b) ∨
  (chk l z e b = 0 ∧ ∃ p, p < 27 ∧ Hit l z e b p ∧ d = DirP.pD p ∧ v = DirP.pL p ∧ u = b ∧ c = 0) ∨
  (chk l z e b = 0 ∧ (∀ p, p < 27 → ¬ Hit l z e b p) ∧ d = 0 ∧ v = 0 ∧ u = 0 ∧ c = 2)
theorem nt_ex (l z e b : Int) : ∃ d v u c, Nt l z e b d v u c := by
  by_cases h : chk l z e b = 0
  · by_cases k : ∃ p, p < 27 ∧ Hit l z e b p
    · obtain ⟨p, h1, h2⟩ := k
      exact ⟨_, _, _, _, .inr (.inl ⟨h, p, h1, h2, rfl, rfl, rfl, rfl⟩)⟩
    · exact ⟨_, _, _, _, .inr (.inr ⟨h, fun p h1 h2 => k ⟨p, h1, h2⟩, rfl, rfl, rfl, rfl⟩)⟩
  · exact ⟨_, _, _, _, .inl ⟨h, rfl, rfl, rfl, rfl⟩⟩
theorem nt_bad {l z e b d v u c : Int} (H : Nt l z e b d v u c) (h : chk l z e b ≠ 0) : d = 0 ∧ v = 0 ∧ u = 0 ∧ c = chk l z e b := by
  rcases H with ⟨_, h1⟩ | ⟨h1, _⟩ | ⟨h1, _⟩
  · exact h1
  · exact absurd h1 h
  · exact absurd h1 h
theorem nt_hit {l z e b d v u c : Int} (H : Nt l z e b d v u c) (h : chk l z e b = 0) {p : Nat} (hp : p < 27) (hh : Hit l z e b p) : d = DirP.pD p ∧ v = DirP.pL p ∧ u = b ∧ c = 0 := by
  rcases H with ⟨h1, _⟩ | ⟨_, q, _, h2, h3⟩ | ⟨_, h1, _⟩
  · exact absurd h h1
  · obtain rfl := hit_inj hh h2
    exact h3
  · exact absurd hh (h1 p hp)
theorem nt_none {l z e b d v u c : Int} (H : Nt l z e b d v u c) (h : chk l z e b = 0) (hn : ∀ p, p < 27 → ¬ Hit l z e b p) : d = 0 ∧ v = 0 ∧ u = 0 ∧ c = 2 := by
  rcases H with ⟨h1, _⟩ | ⟨_, q, h1, h2, _⟩ | ⟨_, _, h1⟩
  · exact absurd h h1
  · exact absurd h2 (hn q h1)
  · exact h1
/-- The aim of a target is a valid one. -/
theorem of_chk {l d v b : Int} (h : ofE l d v b = 0) : chk l (ofZ l d v b) (ofL l d v b) (ofB l d v b) = 0 := by
  have h1 := of_yes h
  obtain ⟨e1, e2, e3⟩ := of_vals h
  rw [e1, e2, e3]
  by_cases c : d = 0
  · rw [if_pos c, if_pos c]
    exact chk_ok h1.1 (by omega) (by omega) h1.2.2.1 (fun _ => rfl)
  · rw [if_neg c, if_neg c]
    exact chk_ok h1.1 (by omega) (by omega) h1.2.2.1 (fun x => by omega)
/-- The aim of a target is notated as this target. -/
theorem of_nt {l d v b : Int} (h : ofE l d v b = 0) : Nt l (ofZ l d v b) (ofL l d v b) (ofB l d v b) d v b 0 := by
  have h1 := of_yes h
  obtain ⟨p, hp, rfl, rfl⟩ := DirP.num_of h1.2.1.1 h1.2.1.2
  have e3 := (of_vals h).2.2
  refine .inr (.inl ⟨of_chk h, p, hp, ?_, rfl, rfl, e3.symm, rfl⟩)
  rw [e3]
  exact ⟨h, rfl, rfl⟩
/-! ### Mirror images -/
def swp (l : Int) : Int := if l = 0 then 1 else if l = 1 then 0 else if l = 3 then 4 else if l = 4 then 3 else if l = 2 ∨ l = 5 then l else 0
def swE (l : Int) : Int := if 0 ≤ l ∧ l ≤ 5 then 0 else 9
def mirZ (l z e b : Int) : Int := if chk l z e b = 0 then (-z) % 256 else 0
def mirL (l z e b : Int) : Int := if chk l z e b = 0 then e else 0
def mirB (l z e b : Int) : Int := if chk l z e b = 0 then b else 0
theorem mir_yes {l z e b : Int} (h : chk l z e b = 0) : mirZ l z e b = (-z) % 256 ∧ mirL l z e b = e ∧ mirB l z e b = b := by
  unfold mirZ mirL mirB; rw [if_pos h, if_pos h, if_pos h]; exact ⟨rfl, rfl, rfl⟩
theorem mir_nul {l z e b : Int} (h : chk l z e b ≠ 0) : mirZ l z e b = 0 ∧ mirL l z e b = 0 ∧ mirB l z e b = 0 := by
  unfold mirZ mirL mirB; rw [if_neg h, if_neg h, if_neg h]; exact ⟨rfl, rfl, rfl⟩
theorem swp_in {l : Int} (h : 0 ≤ l ∧ l ≤ 5) : 0 ≤ swp l ∧ swp l ≤ 5 ∧ (swp l = 2 ∨ swp l = 5 ↔ l = 2 ∨ l = 5) := by
  have t : l = 0 ∨ l = 1 ∨ l = 2 ∨ l = 3 ∨ l = 4 ∨ l = 5 := by omega
  rcases t with rfl | rfl | rfl | rfl | rfl | rfl <;> decide
theorem mir_chk {l z e b : Int} (h : chk l z e b = 0) : chk (swp l) ((-z) % 256) e b = 0 := by
  obtain ⟨h1, h2, h3, h4, h5⟩ := chk_yes h
  have := swp_in h1
  exact chk_ok ⟨this.1, this.2.1⟩ (by omega) h3 h4 (fun x => by have := h5 x; omega)
/-- The mirrored aim of a target is that of the mirrored target, for the limb of the other side. -/
theorem of_mir {l d v b : Int} (h : ofE l d v b = 0) : ofE (swp l) (DirP.mirV d) v b = 0 ∧ ofZ (swp l) (DirP.mirV d) v b = (-(ofZ l d v b)) % 256 ∧ ofL (swp l) (DirP.mirV d) v b = ofL l d v b ∧ ofB (swp l) (DirP.mirV d) v b = ofB l d v b := by
  obtain ⟨h1, h2, h3, h4⟩ := of_yes h
  have hs := swp_in h1
  have hm := DirP.mir_in h2.1
  have ho : ofE (swp l) (DirP.mirV d) v b = 0 := of_ok ⟨hs.1, hs.2.1⟩ ⟨⟨hm.1, hm.2.1⟩, h2.2⟩ h3 (fun x => by have := h4 (hm.2.2.1 x); have := hs.2.2; omega)
  obtain ⟨e1, e2, e3⟩ := of_vals h
  obtain ⟨f1, f2, f3⟩ := of_vals ho
  refine ⟨ho, ?_, ?_, f3.trans e3.symm⟩
  · rw [e1, f1]
    by_cases c : d = 0
    · rw [if_pos c, if_pos (hm.2.2.2 c)]; rfl
    · rw [if_neg c, if_neg (fun x => c (hm.2.2.1 x)), DirP.mir_of (by omega)]
      omega
  · rw [e2, f2]
    by_cases c : d = 0
    · rw [if_pos c, if_pos (hm.2.2.2 c)]
    · rw [if_neg c, if_neg (fun x => c (hm.2.2.1 x))]
/-! ### Ways -/
def sd (l : Int) : Int := if l = 1 ∨ l = 4 then 64 else 192
theorem sd_ok (l : Int) : sideOk (sd l) = true := by unfold sd; split <;> rfl
theorem sd_or (l : Int) : sd l = 64 ∨ sd l = 192 := by unfold sd; split <;> omega
/-- Between which azimuths a limb moves. -/
def wX (l az ae bz be : Int) : Int := if ae = 64 ∨ ae = -64 then (if be = 64 ∨ be = -64 then sd l else bz) else az
def wY (l az ae bz be : Int) : Int := if be = 64 ∨ be = -64 then (if ae = 64 ∨ ae = -64 then sd l else az) else bz
def twi (l az ae bz be : Int) : Prop := (l = 2 ∨ l = 5) ∧ ¬ (ae = 64 ∨ ae = -64) ∧ ¬ (be = 64 ∨ be = -64) ∧ (bz - az) % 256 = 128
instance (l az ae bz be : Int) : Decidable (twi l az ae bz be) := by unfold twi; infer_instance
def lpE (l az ae ab bz be bb k d : Int) : Int :=
  if chk l az ae ab = 0 then (if chk l bz be bb = 0 then (if (1 ≤ d ∧ d ≤ 524288) ∧ 0 ≤ k ∧ k ≤ d then (if twi l az ae bz be then 20 else 0) else 1) else chk l bz be bb) else chk l az ae ab
/-- The azimuth after k of d ticks on the way from x to y. -/
def azV (s x y k d : Int) : Int := (lerpV x (x + wayV x y s) k d) % 256
def lpL (l az ae ab bz be bb k d : Int) : Int := if lpE l az ae ab bz be bb k d = 0 then lerpV ae be k d else 0
def lpB (l az ae ab bz be bb k d : Int) : Int := if lpE l az ae ab bz be bb k d = 0 then lerpV ab bb k d else 0
def lpZ (l az ae ab bz be bb k d : Int) : Int :=
  if lpE l az ae ab bz be bb k d = 0 then (if lerpV ae be k d = 64 ∨ lerpV ae be k d = -64 then 0 else azV (sd l) (wX l az ae bz be) (wY l az ae bz be) k d) else 0
theorem lp_yes {l az ae ab bz be bb k d : Int} (h : lpE l az ae ab bz be bb k d = 0) : chk l az ae ab = 0 ∧ chk l bz be bb = 0 ∧ ((1 ≤ d ∧ d ≤ 524288) ∧ 0 ≤ k ∧ k ≤ d) ∧ ¬ twi l az ae bz be := by
  unfold lpE at h
  by_cases h1 : chk l az ae ab = 0
  · rw [if_pos h1] at h
    by_cases h2 : chk l bz be bb = 0
    · rw [if_pos h2] at h
      by_cases h3 : (1 ≤ d ∧ d ≤ 524288) ∧ 0 ≤ k ∧ k ≤ d
      · rw [if_pos h3] at h
        by_cases h4 : twi l az ae bz be
        · rw [if_pos h4] at h; omega
        · exact ⟨h1, h2, h3, h4⟩
      · rw [if_neg h3] at h; omega
    · rw [if_neg h2] at h; exact absurd h h2
  · rw [if_neg h1] at h; exact absurd h h1
theorem lp_ok {l az ae ab bz be bb k d : Int} (h1 : chk l az ae ab = 0) (h2 : chk l bz be bb = 0) (h3 : (1 ≤ d ∧ d ≤ 524288) ∧ 0 ≤ k ∧ k ≤ d) (h4 : ¬ twi l az ae bz be) : lpE l az ae ab bz be bb k d = 0 := by
  unfold lpE; rw [if_pos h1, if_pos h2, if_pos h3, if_neg h4]
theorem lp_twist {l az ae ab bz be bb k d : Int} (h1 : chk l az ae ab = 0) (h2 : chk l bz be bb = 0) (h3 : (1 ≤ d ∧ d ≤ 524288) ∧ 0 ≤ k ∧ k ≤ d) (h4 : twi l az ae bz be) : lpE l az ae ab bz be bb k d = 20 := by
  unfold lpE; rw [if_pos h1, if_pos h2, if_pos h3, if_pos h4]
theorem lp_vals {l az ae ab bz be bb k d : Int} (h : lpE l az ae ab bz be bb k d = 0) :
    lpZ l az ae ab bz be bb k d = (if lerpV ae be k d = 64 ∨ lerpV ae be k d = -64 then 0 else azV (sd l) (wX l az ae bz be) (wY l az ae bz be) k d) ∧ lpL l az ae ab bz be bb k d = lerpV ae be k d ∧ lpB l az ae ab bz be bb k d = lerpV ab bb k d := by
  unfold lpZ lpL lpB; rw [if_pos h, if_pos h, if_pos h]; exact ⟨rfl, rfl, rfl⟩
theorem lp_nul {l az ae ab bz be bb k d : Int} (h : lpE l az ae ab bz be bb k d ≠ 0) : lpZ l az ae ab bz be bb k d = 0 ∧ lpL l az ae ab bz be bb k d = 0 ∧ lpB l az ae ab bz be bb k d = 0 := by
  unfold lpZ lpL lpB; rw [if_neg h, if_neg h, if_neg h]; exact ⟨rfl, rfl, rfl⟩
theorem wX_in {l az ae bz be : Int} (h : 0 ≤ az ∧ az ≤ 255) (h' : 0 ≤ bz ∧ bz ≤ 255) : 0 ≤ wX l az ae bz be ∧ wX l az ae bz be ≤ 255 := by
  have := sd_or l
  unfold wX; split
  · split <;> omega
  · exact h
theorem wY_in {l az ae bz be : Int} (h : 0 ≤ az ∧ az ≤ 255) (h' : 0 ≤ bz ∧ bz ≤ 255) : 0 ≤ wY l az ae bz be ∧ wY l az ae bz be ≤ 255 := by
  have := sd_or l
  unfold wY; split
  · split <;> omega
  · exact h'
theorem lerp_in {a b k d : Int} (ha : -1048576 ≤ a ∧ a ≤ 1048576) (hb : -1048576 ≤ b ∧ b ≤ 1048576) (h : (1 ≤ d ∧ d ≤ 524288) ∧ 0 ≤ k ∧ k ≤ d) : lerpOk a b k d = true := (lerpOk_iff a b k d).2 ⟨ha, hb, h.1, h.2⟩
theorem way_self (x s : Int) : wayV x x s = 0 := by unfold wayV; rw [Int.sub_self]; rfl
/-- A way backwards. -/
theorem az_back {s x y k d : Int} (hx : 0 ≤ x ∧ x ≤ 255) (hy : 0 ≤ y ∧ y ≤ 255) (hs : s = 64 ∨ s = 192) (h : (1 ≤ d ∧ d ≤ 524288) ∧ 0 ≤ k ∧ k ≤ d) : azV s y x (d - k) d = azV s x y k d := by
  unfold azV
  have hl := way_lands x y s
  have hb := way_bd x y s
  rw [way_back hx hy hs]
  generalize wayV x y s = q at *
  rw [show y + -q = y - q by omega, ← lerpV_swap y (y - q) (d - k) d, show d - (d - k) = k by omega]
  obtain ⟨m, hm⟩ : ∃ m, y = x + q + 256 * m := ⟨-((x + q - y) / 256), by omega⟩
  have e1 : y - q = x + 256 * m := by omega
  have e2 : y = x + q + 256 * m := hm
  rw [e1]
  have := lerpV_shift (a := x) (b := x + q) (k := k) (d := d) (c := 256 * m) (lerp_in (by omega) (by omega) h) (lerp_in (by omega) (by omega) h) (by omega)
  rw [← e2] at this
  rw [this]
  omega
/-- A way in the mirror. -/
theorem az_mir {s s' x y k d : Int} (hx : 0 ≤ x ∧ x ≤ 255) (h : (1 ≤ d ∧ d ≤ 524288) ∧ 0 ≤ k ∧ k ≤ d) (hw : wayV ((-x) % 256) ((-y) % 256) s' = -wayV x y s) : azV s' ((-x) % 256) ((-y) % 256) k d = (-azV s x y k d) % 256 := by
  unfold azV
  have hb := way_bd x y s
  rw [hw]
  generalize wayV x y s = q at *
  obtain ⟨m, hm⟩ : ∃ m, (-x) % 256 = -x + 256 * m := ⟨-((-x) / 256), by omega⟩
  rw [hm]
  have := lerpV_shift (a := -x) (b := -(x + q)) (k := k) (d := d) (c := 256 * m) (lerp_in (by omega) (by omega) h) (lerp_in (by omega) (by omega) h) (by omega)
  rw [lerpV_neg, show -(x + q) + 256 * m = -x + 256 * m + -q by omega] at this
  rw [this]
  omega
theorem way_mir_far {x y s s' : Int} (hd : (y - x) % 256 ≠ 128) : wayV ((-x) % 256) ((-y) % 256) s' = -wayV x y s := by
  unfold wayV
  by_cases h2 : (y - x) % 256 < 128
  · rw [if_pos h2]
    by_cases h3 : (y - x) % 256 = 0
    · rw [if_pos (by omega)]; omega
    · rw [if_neg (by omega), if_pos (by omega)]; omega
  · rw [if_neg h2, if_pos (by omega), if_pos (by omega)]; omega
theorem sd_swp {l : Int} (h : 0 ≤ l ∧ l ≤ 5) (ht : l ≠ 2 ∧ l ≠ 5) : sd (swp l) = (-(sd l)) % 256 := by
  have t : l = 0 ∨ l = 1 ∨ l = 3 ∨ l = 4 := by omega
  rcases t with rfl | rfl | rfl | rfl <;> decide
theorem sd_trunk {l : Int} (ht : l = 2 ∨ l = 5) : sd l = 192 ∧ swp l = l := by
  rcases ht with rfl | rfl <;> decide
/-- Ways of limbs are the same backwards. -/
theorem lp_back {l az ae ab bz be bb k d : Int} (h1 : chk l az ae ab = 0) (h2 : chk l bz be bb = 0) (h : (1 ≤ d ∧ d ≤ 524288) ∧ 0 ≤ k ∧ k ≤ d) :
    lpE l bz be bb az ae ab (d - k) d = lpE l az ae ab bz be bb k d ∧ lpZ l bz be bb az ae ab (d - k) d = lpZ l az ae ab bz be bb k d ∧ lpL l bz be bb az ae ab (d - k) d = lpL l az ae ab bz be bb k d ∧ lpB l bz be bb az ae ab (d - k) d = lpB l az ae ab bz be bb k d := by
  have h' : (1 ≤ d ∧ d ≤ 524288) ∧ 0 ≤ d - k ∧ d - k ≤ d := by omega
  have c1 := chk_yes h1
  have c2 := chk_yes h2
  by_cases t : twi l az ae bz be
  · have t' : twi l bz be az ae := by
      unfold twi at t ⊢
      exact ⟨t.1, t.2.2.1, t.2.1, by omega⟩
    have e1 := lp_twist h1 h2 h t
    have e2 := lp_twist h2 h1 h' t'
    have n1 := lp_nul (l := l) (az := az) (ae := ae) (ab := ab) (bz := bz) (be := be) (bb := bb) (k := k) (d := d) (by rw [e1]; decide)
    have n2 := lp_nul (l := l) (az := bz) (ae := be) (ab := bb) (bz := az) (be := ae) (bb := ab) (k := d - k) (d := d) (by rw [e2]; decide)
    rw [e1, e2, n1.1, n1.2.1, n1.2.2, n2.1, n2.2.1, n2.2.2]
    exact ⟨rfl, rfl, rfl, rfl⟩
  · have t' : ¬ twi l bz be az ae := by
      intro x
      apply t
      unfold twi at x ⊢
      exact ⟨x.1, x.2.2.1, x.2.1, by omega⟩
    have e1 := lp_ok h1 h2 h t
    have e2 := lp_ok h2 h1 h' t'
    obtain ⟨v1, v2, v3⟩ := lp_vals e1
    obtain ⟨u1, u2, u3⟩ := lp_vals e2
    rw [e1, e2, v1, v2, v3, u1, u2, u3, lerpV_swap, lerpV_swap]
    refine ⟨rfl, ?_, rfl, rfl⟩
    by_cases c : lerpV ae be k d = 64 ∨ lerpV ae be k d = -64
    · rw [if_pos c, if_pos c]
    · rw [if_neg c, if_neg c]
      have : wX l bz be az ae = wY l az ae bz be := rfl
      have h5 : wY l bz be az ae = wX l az ae bz be := rfl
      rw [this, h5]
      exact az_back (wX_in c1.2.1 c2.2.1) (wY_in c1.2.1 c2.2.1) (sd_or l) h
theorem lerp_self {a k d : Int} (ha : -1048576 ≤ a ∧ a ≤ 1048576) (h : (1 ≤ d ∧ d ≤ 524288) ∧ 0 ≤ k ∧ k ≤ d) : lerpV a a k d = a := by
  have := lerpV_min (lerp_in ha ha h)
  omega
/-- What a way goes through is a valid aim. -/
theorem lp_chk {l az ae ab bz be bb k d : Int} (e : lpE l az ae ab bz be bb k d = 0) : chk l (lpZ l az ae ab bz be bb k d) (lpL l az ae ab bz be bb k d) (lpB l az ae ab bz be bb k d) = 0 := by
  obtain ⟨h1, h2, h, _⟩ := lp_yes e
  have c1 := chk_yes h1
  have c2 := chk_yes h2
  obtain ⟨v1, v2, v3⟩ := lp_vals e
  rw [v1, v2, v3]
  have m1 := lerpV_min (a := ae) (b := be) (lerp_in (by omega) (by omega) h)
  have m2 := lerpV_min (a := ab) (b := bb) (lerp_in (by omega) (by omega) h)
  by_cases c : lerpV ae be k d = 64 ∨ lerpV ae be k d = -64
  · rw [if_pos c]
    exact chk_ok c1.1 (by omega) (by omega) (by omega) (fun _ => rfl)
  · rw [if_neg c]
    exact chk_ok c1.1 (by unfold azV; omega) (by omega) (by omega) (fun x => absurd x c)
/-- Between which azimuths the mirrored limb moves. -/
theorem w_mir {l az ae bz be : Int} (h : (ae = 64 ∨ ae = -64) ∧ (be = 64 ∨ be = -64) → sd (swp l) = (-(sd l)) % 256) :
    wX (swp l) ((-az) % 256) ae ((-bz) % 256) be = (-(wX l az ae bz be)) % 256 ∧ wY (swp l) ((-az) % 256) ae ((-bz) % 256) be = (-(wY l az ae bz be)) % 256 := by
  unfold wX wY
  by_cases c1 : ae = 64 ∨ ae = -64
  · by_cases c2 : be = 64 ∨ be = -64
    · simp only [if_pos c1, if_pos c2, h ⟨c1, c2⟩, and_self]
    · simp only [if_pos c1, if_neg c2, and_self]
  · by_cases c2 : be = 64 ∨ be = -64
    · simp only [if_neg c1, if_pos c2, and_self]
    · simp only [if_neg c1, if_neg c2, and_self]
theorem twi_mir {l az ae bz be : Int} (hl : 0 ≤ l ∧ l ≤ 5) : twi (swp l) ((-az) % 256) ae ((-bz) % 256) be ↔ twi l az ae bz be := by
  unfold twi
  rw [(swp_in hl).2.2]
  have : ((-bz) % 256 - (-az) % 256) % 256 = 128 ↔ (bz - az) % 256 = 128 := by omega
  rw [this]
/-- Ways of limbs are the same in the mirror, but for Torso and Head from up to down. -/
theorem lp_mir {l az ae ab bz be bb k d : Int} (h1 : chk l az ae ab = 0) (h2 : chk l bz be bb = 0) (h : (1 ≤ d ∧ d ≤ 524288) ∧ 0 ≤ k ∧ k ≤ d) (hop : (l = 2 ∨ l = 5) → ¬ (ae = 64 ∧ be = -64 ∨ ae = -64 ∧ be = 64)) :
    lpE (swp l) ((-az) % 256) ae ab ((-bz) % 256) be bb k d = lpE l az ae ab bz be bb k d ∧
    (lpE l az ae ab bz be bb k d = 0 → lpZ (swp l) ((-az) % 256) ae ab ((-bz) % 256) be bb k d = (-(lpZ l az ae ab bz be bb k d)) % 256 ∧ lpL (swp l) ((-az) % 256) ae ab ((-bz) % 256) be bb k d = lpL l az ae ab bz be bb k d ∧ lpB (swp l) ((-az) % 256) ae ab ((-bz) % 256) be bb k d = lpB l az ae ab bz be bb k d) := by
  have c1 := chk_yes h1
  have c2 := chk_yes h2
  have m1 := mir_chk h1
  have m2 := mir_chk h2
  by_cases t : twi l az ae bz be
  · have e1 := lp_twist h1 h2 h t
    have e2 := lp_twist m1 m2 h ((twi_mir c1.1).2 t)
    rw [e1, e2]
    exact ⟨rfl, fun x => absurd x (by decide)⟩
  · have e1 := lp_ok h1 h2 h t
    have e2 := lp_ok m1 m2 h (fun x => t ((twi_mir c1.1).1 x))
    obtain ⟨v1, v2, v3⟩ := lp_vals e1
    obtain ⟨u1, u2, u3⟩ := lp_vals e2
    rw [v1, v2, v3, u1, u2, u3, e1, e2]
    refine ⟨rfl, fun _ => ⟨?_, rfl, rfl⟩⟩
    by_cases c : lerpV ae be k d = 64 ∨ lerpV ae be k d = -64
    · rw [if_pos c, if_pos c]; rfl
    · rw [if_neg c, if_neg c]
      have hb : (ae = 64 ∨ ae = -64) ∧ (be = 64 ∨ be = -64) → sd (swp l) = (-(sd l)) % 256 := by
        rintro ⟨p1, p2⟩
        by_cases tr : l = 2 ∨ l = 5
        · have ho := hop tr
          have hs : ae = be := by omega
          subst hs
          rw [lerp_self (by omega) h] at c
          exact absurd p1 c
        · exact sd_swp c1.1 (by omega)
      obtain ⟨x1, x2⟩ := w_mir (l := l) (az := az) (bz := bz) hb
      rw [x1, x2]
      have i1 := wX_in (l := l) (ae := ae) (be := be) c1.2.1 c2.2.1
      have i2 := wY_in (l := l) (ae := ae) (be := be) c1.2.1 c2.2.1
      refine az_mir i1 h ?_
      by_cases tr : l = 2 ∨ l = 5
      · refine way_mir_far ?_
        have hp : ¬ ((ae = 64 ∨ ae = -64) ∧ (be = 64 ∨ be = -64)) := by
          rintro ⟨p1, p2⟩
          have ho := hop tr
          have hs : ae = be := by omega
          subst hs
          rw [lerp_self (by omega) h] at c
          exact absurd p1 c
        unfold wX wY
        by_cases d1 : ae = 64 ∨ ae = -64
        · have d2 : ¬ (be = 64 ∨ be = -64) := fun x => hp ⟨d1, x⟩
          simp only [if_pos d1, if_neg d2, Int.sub_self]; decide
        · by_cases d2 : be = 64 ∨ be = -64
          · simp only [if_neg d1, if_pos d2, Int.sub_self]; decide
          · simp only [if_neg d1, if_neg d2]
            exact fun x => t ⟨tr, d1, d2, x⟩
      · rw [sd_swp c1.1 (by omega)]
        exact way_image i1 i2 (sd_or l)
/-- A way begins with its first aim and ends with its second one. -/
theorem lp_ends {l az ae ab bz be bb k d : Int} (e : lpE l az ae ab bz be bb k d = 0) :
    (lpE l az ae ab bz be bb 0 d = 0 ∧ lpZ l az ae ab bz be bb 0 d = az ∧ lpL l az ae ab bz be bb 0 d = ae ∧ lpB l az ae ab bz be bb 0 d = ab) ∧
    (lpE l az ae ab bz be bb d d = 0 ∧ lpZ l az ae ab bz be bb d d = bz ∧ lpL l az ae ab bz be bb d d = be ∧ lpB l az ae ab bz be bb d d = bb) := by
  obtain ⟨h1, h2, h, ht⟩ := lp_yes e
  have c1 := chk_yes h1
  have c2 := chk_yes h2
  have k0 : (1 ≤ d ∧ d ≤ 524288) ∧ 0 ≤ (0 : Int) ∧ 0 ≤ d := by omega
  have k1 : (1 ≤ d ∧ d ≤ 524288) ∧ 0 ≤ d ∧ d ≤ d := by omega
  have e0 := lp_ok h1 h2 k0 ht
  have e1 := lp_ok h1 h2 k1 ht
  obtain ⟨v1, v2, v3⟩ := lp_vals e0
  obtain ⟨u1, u2, u3⟩ := lp_vals e1
  have i1 := wX_in (l := l) (ae := ae) (be := be) c1.2.1 c2.2.1
  have i2 := wY_in (l := l) (ae := ae) (be := be) c1.2.1 c2.2.1
  have hb := way_bd (wX l az ae bz be) (wY l az ae bz be) (sd l)
  have hl := way_lands (wX l az ae bz be) (wY l az ae bz be) (sd l)
  rw [v1, v2, v3, u1, u2, u3]
  have L0 : lerpV ae be 0 d = ae := (lerpV_ends (lerp_in (by omega) (by omega) k0)).1 rfl
  have L1 : lerpV ae be d d = be := (lerpV_ends (lerp_in (by omega) (by omega) k1)).2 rfl
  have B0 : lerpV ab bb 0 d = ab := (lerpV_ends (lerp_in (by omega) (by omega) k0)).1 rfl
  have B1 : lerpV ab bb d d = bb := (lerpV_ends (lerp_in (by omega) (by omega) k1)).2 rfl
  rw [L0, L1, B0, B1]
  refine ⟨⟨e0, ?_, rfl, rfl⟩, e1, ?_, rfl, rfl⟩
  · by_cases c : ae = 64 ∨ ae = -64
    · rw [if_pos c]; exact (c1.2.2.2.2 c).symm
    · rw [if_neg c]
      unfold azV
      rw [(lerpV_ends (lerp_in (by omega) (by omega) k0)).1 rfl]
      have : wX l az ae bz be = az := if_neg c
      rw [this]
      omega
  · by_cases c : be = 64 ∨ be = -64
    · rw [if_pos c]; exact (c2.2.2.2.2 c).symm
    · rw [if_neg c]
      unfold azV
      rw [(lerpV_ends (lerp_in (by omega) (by omega) k1)).2 rfl]
      have : wY l az ae bz be = bz := if_neg c
      rw [this] at hl hb ⊢
      omega
/-! ### Vectors -/
def vcE (z e b : Int) : Int := chk 0 z e b
def vX (z e f : Int) : Int := nearV (cosV e * sinV (z + f % 256)) 16384
def vY (z e f : Int) : Int := nearV (cosV e * cosV (z + f % 256)) 16384
def vcX (z e b f : Int) : Int := if chk 0 z e b = 0 then vX z e f else 0
def vcY (z e b f : Int) : Int := if chk 0 z e b = 0 then vY z e f else 0
def vcZ (z e b : Int) : Int := if chk 0 z e b = 0 then sinV e else 0
theorem vc_yes {z e b : Int} (f : Int) (h : chk 0 z e b = 0) : vcX z e b f = vX z e f ∧ vcY z e b f = vY z e f ∧ vcZ z e b = sinV e := by
  unfold vcX vcY vcZ; rw [if_pos h, if_pos h, if_pos h]; exact ⟨rfl, rfl, rfl⟩
theorem vc_nul {z e b : Int} (f : Int) (h : chk 0 z e b ≠ 0) : vcX z e b f = 0 ∧ vcY z e b f = 0 ∧ vcZ z e b = 0 := by
  unfold vcX vcY vcZ; rw [if_neg h, if_neg h, if_neg h]; exact ⟨rfl, rfl, rfl⟩
theorem v_prods (z e f : Int) : (-268435456 ≤ cosV e * sinV (z + f % 256) ∧ cosV e * sinV (z + f % 256) ≤ 268435456) ∧ (-268435456 ≤ cosV e * cosV (z + f % 256) ∧ cosV e * cosV (z + f % 256) ≤ 268435456) :=
  ⟨prod_bd (cos_bd e) (sin_bd _), prod_bd (cos_bd e) (cos_bd _)⟩
/-- A quarter of a turn more. -/
theorem v_quarter (z e f : Int) : vX z e (f + 64) = vY z e f ∧ vY z e (f + 64) = -(vX z e f) := by
  unfold vX vY
  have e1 : sinV (z + (f + 64) % 256) = cosV (z + f % 256) := by rw [cosV_sin]; exact sinV_eq (by omega)
  have e2 : cosV (z + (f + 64) % 256) = -sinV (z + f % 256) := by
    rw [cosV_sin, ← (sin_facts (z + f % 256)).2.1]; exact sinV_eq (by omega)
  rw [e1, e2, Int.mul_neg, near_neg _ _ (by decide)]
  exact ⟨rfl, rfl⟩
/-- The mirrored aim for the opposite facing. -/
theorem v_mir (z e f : Int) : vX ((-z) % 256) e (-f) = -(vX z e f) ∧ vY ((-z) % 256) e (-f) = vY z e f := by
  unfold vX vY
  have e1 : sinV ((-z) % 256 + (-f) % 256) = -sinV (z + f % 256) := by
    rw [← (sin_facts (z + f % 256)).1]; exact sinV_eq (by omega)
  have e2 : cosV ((-z) % 256 + (-f) % 256) = cosV (z + f % 256) := by
    rw [← cos_neg (z + f % 256), cosV_sin, cosV_sin]; exact sinV_eq (by omega)
  rw [e1, e2, Int.mul_neg, near_neg _ _ (by decide)]
  exact ⟨rfl, rfl⟩
theorem v_bd (z e f : Int) : (-16384 ≤ vX z e f ∧ vX z e f ≤ 16384) ∧ (-16384 ≤ vY z e f ∧ vY z e f ≤ 16384) := by
  obtain ⟨h1, h2⟩ := v_prods z e f
  unfold vX vY
  exact ⟨⟨near_ge (by decide) (by omega), near_le (by decide) (by omega)⟩, near_ge (by decide) (by omega), near_le (by decide) (by omega)⟩
theorem near_round {s : Int} (h : -2147483648 ≤ s ∧ s ≤ 2147483648) : roundV s 16384 = nearV s 16384 ∧ roundE s 16384 = 0 := by
  have h1 := round_ok ((small_iff s).2 (by omega)) ((small_iff 16384).2 (by decide)) (by decide)
  rw [if_neg (by decide)] at h1
  exact ⟨h1.2, h1.1⟩
end Go.Proofs.Ytmjokgddhainlaa.AimP
