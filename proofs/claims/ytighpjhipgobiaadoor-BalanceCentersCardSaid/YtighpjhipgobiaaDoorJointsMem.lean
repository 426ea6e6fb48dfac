/-
  Joints in memory: three cells a place, one place after the other; what sums and ways the walks want. Nothing of the program. Condition: none.
-/
import Derived.Test.YtighpjhipgobiaaDoorJointsPlain
import Derived.Test.YtighpjhipgobiaaDoorPart
namespace Go.Proofs.YtighpjhipgobiaaDoor.JntP
open NumP AngP AimP PstP PrtW
/-! ### Places in a row of integers -/
def Pt (f : Vl) (off : Nat) (x y z : Int) : Prop := f off = x ∧ f (off + 1) = y ∧ f (off + 2) = z
theorem pt_cz {f : Vl} {off : Nat} {x y z : Int} (h : Pt f off x y z) : (#[.int .i64 x, .int .i64 y, .int .i64 z] : Array Value) = cz 3 (fun i => f (off + i)) := by
  obtain ⟨rfl, rfl, rfl⟩ := h
  rfl
theorem pt_put (f : Vl) (off : Nat) (x y z : Int) : Pt (put f off 3 (l3 x y z)) off x y z :=
  ⟨put_in f (k := off) (m := 3) (j := 0) (l3 x y z) (by omega), put_in f (k := off) (m := 3) (j := 1) (l3 x y z) (by omega), put_in f (k := off) (m := 3) (j := 2) (l3 x y z) (by omega)⟩
theorem pt_far {f : Vl} {off k : Nat} {x y z : Int} (h : Pt f off x y z) (g : Vl) (hk : off + 3 ≤ k ∨ k + 3 ≤ off) : Pt (put f k 3 g) off x y z :=
  ⟨(put_out f g (by omega)).trans h.1, (put_out f g (by omega)).trans h.2.1, (put_out f g (by omega)).trans h.2.2⟩
theorem pt_congr {n : Nat} {f h : Vl} {off : Nat} {x y z : Int} (he : ∀ i, i < n → h i = f i) (hn : off + 3 ≤ n) (hp : Pt f off x y z) : Pt h off x y z :=
  ⟨(he _ (by omega)).trans hp.1, (he _ (by omega)).trans hp.2.1, (he _ (by omega)).trans hp.2.2⟩
/-- What stands in memory before round k: the hips' middle, the neck, the head, and k of both sides. -/
structure Jk (b p : Vl) (s : Int) (k : Nat) (f : Vl) : Prop where
  hip : Pt f 0 (p 0) (p 1) (hpZ b p)
  neck : Pt f 3 (nkX b p) (nkY b p) (nkZ b p)
  head : Pt f 6 (hdX b p) (hdY b p) (hdZ b p)
  sides : ∀ i, i < k → Pt f (9 + i * 3) (hiX b p i) (hiY b p i) (hpZ b p) ∧ Pt f (15 + i * 3) (shX b p i) (shY b p i) (nkZ b p) ∧ Pt f (21 + i * 3) (haX b p i) (haY b p i) (haZ b p i) ∧ Pt f (27 + i * 3) (feX b p s i) (feY b p s i) (feZ b p s i)
theorem Jk.next {b p : Vl} {s : Int} {k : Nat} {f : Vl} (h : Jk b p s k f) (hk : k < 2) {hx hy hz sx sy sz ax ay az fx fy fz : Int} (h1 : hiX b p k = hx ∧ hiY b p k = hy ∧ hpZ b p = hz) (h2 : shX b p k = sx ∧ shY b p k = sy ∧ nkZ b p = sz) (h3 : haX b p k = ax ∧ haY b p k = ay ∧ haZ b p k = az) (h4 : feX b p s k = fx ∧ feY b p s k = fy ∧ feZ b p s k = fz) :
    Jk b p s (k + 1) (put (put (put (put f (9 + k * 3) 3 (l3 hx hy hz)) (15 + k * 3) 3 (l3 sx sy sz)) (21 + k * 3) 3 (l3 ax ay az)) (27 + k * 3) 3 (l3 fx fy fz)) := by
  obtain ⟨rfl, rfl, rfl⟩ := h1
  obtain ⟨rfl, rfl, rfl⟩ := h2
  obtain ⟨rfl, rfl, rfl⟩ := h3
  obtain ⟨rfl, rfl, rfl⟩ := h4
  refine ⟨?_, ?_, ?_, fun i hi => ?_⟩
  · exact pt_far (pt_far (pt_far (pt_far h.hip _ (by omega)) _ (by omega)) _ (by omega)) _ (by omega)
  · exact pt_far (pt_far (pt_far (pt_far h.neck _ (by omega)) _ (by omega)) _ (by omega)) _ (by omega)
  · exact pt_far (pt_far (pt_far (pt_far h.head _ (by omega)) _ (by omega)) _ (by omega)) _ (by omega)
  · by_cases e : i = k
    · subst e
      refine ⟨?_, ?_, ?_, pt_put ..⟩
      · exact pt_far (pt_far (pt_far (pt_put ..) _ (by omega)) _ (by omega)) _ (by omega)
      · exact pt_far (pt_far (pt_put ..) _ (by omega)) _ (by omega)
      · exact pt_far (pt_put ..) _ (by omega)
    · obtain ⟨g1, g2, g3, g4⟩ := h.sides i (by omega)
      refine ⟨?_, ?_, ?_, ?_⟩
      · exact pt_far (pt_far (pt_far (pt_far g1 _ (by omega)) _ (by omega)) _ (by omega)) _ (by omega)
      · exact pt_far (pt_far (pt_far (pt_far g2 _ (by omega)) _ (by omega)) _ (by omega)) _ (by omega)
      · exact pt_far (pt_far (pt_far (pt_far g3 _ (by omega)) _ (by omega)) _ (by omega)) _ (by omega)
      · exact pt_far (pt_far (pt_far (pt_far g4 _ (by omega)) _ (by omega)) _ (by omega)) _ (by omega)
theorem Jk.done {b p : Vl} {s : Int} {f : Vl} (h : Jk b p s 2 f) : cz 33 f = cz 33 (joS b p s) := by
  refine cz_congr (jo_is fun k hk => ?_)
  rcases k11 hk with rfl | rfl | rfl | ⟨i, hi, rfl⟩ | ⟨i, hi, rfl⟩ | ⟨i, hi, rfl⟩ | ⟨i, hi, rfl⟩
  · exact h.hip
  · exact h.neck
  · exact h.head
  · obtain ⟨u1, u2, u3⟩ := pl_hips b p s hi
    have g := (h.sides i hi).1
    rw [u1, u2, u3, show (3 + i) * 3 = 9 + i * 3 by omega]
    exact g
  · obtain ⟨u1, u2, u3⟩ := pl_shoulders b p s hi
    have g := (h.sides i hi).2.1
    rw [u1, u2, u3, show (5 + i) * 3 = 15 + i * 3 by omega]
    exact g
  · obtain ⟨u1, u2, u3⟩ := pl_hands b p s hi
    have g := (h.sides i hi).2.2.1
    rw [u1, u2, u3, show (7 + i) * 3 = 21 + i * 3 by omega]
    exact g
  · obtain ⟨u1, u2, u3⟩ := pl_feet b p s hi
    have g := (h.sides i hi).2.2.2
    rw [u1, u2, u3, show (9 + i) * 3 = 27 + i * 3 by omega]
    exact g
/-- Before the first round. -/
theorem jk_start (b p : Vl) (s : Int) : Jk b p s 0 (put (put (put nul 0 3 (l3 (p 0) (p 1) (hpZ b p))) 3 3 (l3 (nkX b p) (nkY b p) (nkZ b p))) 6 3 (l3 (hdX b p) (hdY b p) (hdZ b p))) :=
  ⟨pt_far (pt_far (pt_put ..) _ (by omega)) _ (by omega), pt_far (pt_put ..) _ (by omega), pt_put .., fun i hi => absurd hi (by omega)⟩
/-! ### Sums, ways along limbs, ways to the sides -/
def bd (x : Int) : Prop := -1000000 ≤ x ∧ x ≤ 1000000
def sm (a b c d e f x y z : Int) : Prop := (bd a ∧ bd b ∧ bd c) ∧ (bd d ∧ bd e ∧ bd f) ∧ a + d = x ∧ b + e = y ∧ c + f = z
def alo (n z e b f x y v : Int) : Prop := (0 ≤ n ∧ n ≤ 1500) ∧ chk 0 z e b = 0 ∧ wy n b (vX z e f) = x ∧ wy n b (vY z e f) = y ∧ wy n b (sinV e) = v
def sdo (d f x y : Int) : Prop := (-1500 ≤ d ∧ d ≤ 1500) ∧ turX d 0 f = x ∧ turY d 0 f = y
section
variable {b p : Vl} (hb : BuiP.chk b = 0) (hp : vaE p = 0)
include hb hp
theorem al_ok {i k : Nat} (hi : i < 11) (hk : k < 6) : alo (b i) (p (4 + k * 3)) (p (4 + k * 3 + 1)) (p (4 + k * 3 + 2)) (p 2) (alX (b i) p k) (alY (b i) p k) (alZ (b i) p k) :=
  ⟨BuiP.len_bd (BuiP.ok_of hb).1 hi, (bend_bd hp hk).1, rfl, rfl, rfl⟩
theorem al_bd {i k : Nat} (hi : i < 11) (hk : k < 6) : bd (alX (b i) p k) ∧ bd (alY (b i) p k) ∧ bd (alZ (b i) p k) := by
  obtain ⟨h1, h2⟩ := BuiP.len_bd (BuiP.ok_of hb).1 hi
  obtain ⟨q1, q2, q3⟩ := (pt_bd hb hp).1 (b i) k h1 h2 hk
  unfold bd
  omega
theorem sg_bd {i k : Nat} (hi : i = 4 ∨ i = 5) (hk : k < 2) : -400 ≤ sg k * b i ∧ sg k * b i ≤ 400 := by
  have h4 : 20 ≤ b 4 ∧ b 4 ≤ 300 := (BuiP.ok_of hb).1 4 (by omega)
  have h5 : 50 ≤ b 5 ∧ b 5 ≤ 400 := (BuiP.ok_of hb).1 5 (by omega)
  have _ := hp
  rcases hi with rfl | rfl
  · rcases sg_or k hk (b 4) with ⟨_, _, e⟩ | ⟨_, _, e⟩ <;> omega
  · rcases sg_or k hk (b 5) with ⟨_, _, e⟩ | ⟨_, _, e⟩ <;> omega
theorem sd_ok {i k : Nat} (hi : i = 4 ∨ i = 5) (hk : k < 2) : sdo (sg k * b i) (p 2) (turX (sg k * b i) 0 (p 2)) (turY (sg k * b i) 0 (p 2)) := by
  have := sg_bd hb hp hi hk
  exact ⟨by omega, rfl, rfl⟩
theorem sd_bds {i k : Nat} (hi : i = 4 ∨ i = 5) (hk : k < 2) : bd (turX (sg k * b i) 0 (p 2)) ∧ bd (turY (sg k * b i) 0 (p 2)) ∧ bd 0 := by
  obtain ⟨q1, q2⟩ := sd_bd (sg_bd hb hp hi hk) (p 2)
  unfold bd
  omega
theorem hp_bd : bd (p 0) ∧ bd (p 1) ∧ bd (hpZ b p) := by
  obtain ⟨p0, p1, -, -⟩ := (va_yes hp).1
  have h := (pt_bd hb hp).2
  unfold bd
  omega
theorem at_bd {k : Nat} (hk : k < 11) : bd (plX b p 0 k) ∧ bd (plY b p 0 k) ∧ bd (plZ b p 0 k) := by
  obtain ⟨q1, q2, q3⟩ := pl_bd (s := 0) (jo_ok hb hp (by omega)) hk
  unfold bd
  omega
theorem sm_neck : sm (p 0) (p 1) (hpZ b p) (alX (b 1) p 2) (alY (b 1) p 2) (alZ (b 1) p 2) (nkX b p) (nkY b p) (nkZ b p) := ⟨hp_bd hb hp, al_bd hb hp (by omega) (by omega), rfl, rfl, rfl⟩
theorem sm_head : sm (nkX b p) (nkY b p) (nkZ b p) (alX (b 2) p 5) (alY (b 2) p 5) (alZ (b 2) p 5) (hdX b p) (hdY b p) (hdZ b p) := ⟨at_bd hb hp (k := 1) (by omega), al_bd hb hp (by omega) (by omega), rfl, rfl, rfl⟩
theorem sm_hips {k : Nat} (hk : k < 2) : sm (p 0) (p 1) (hpZ b p) (turX (sg k * b 4) 0 (p 2)) (turY (sg k * b 4) 0 (p 2)) 0 (hiX b p k) (hiY b p k) (hpZ b p) := ⟨hp_bd hb hp, sd_bds hb hp (.inl rfl) hk, rfl, rfl, Int.add_zero _⟩
theorem sm_shoulders {k : Nat} (hk : k < 2) : sm (nkX b p) (nkY b p) (nkZ b p) (turX (sg k * b 5) 0 (p 2)) (turY (sg k * b 5) 0 (p 2)) 0 (shX b p k) (shY b p k) (nkZ b p) := ⟨at_bd hb hp (k := 1) (by omega), sd_bds hb hp (.inr rfl) hk, rfl, rfl, Int.add_zero _⟩
theorem sm_hands {k : Nat} (hk : k < 2) : sm (shX b p k) (shY b p k) (nkZ b p) (alX (b 3) p (3 + k)) (alY (b 3) p (3 + k)) (alZ (b 3) p (3 + k)) (haX b p k) (haY b p k) (haZ b p k) := by
  refine ⟨?_, al_bd hb hp (by omega) (by omega), rfl, rfl, rfl⟩
  obtain ⟨u1, u2, u3⟩ := pl_shoulders b p 0 hk
  have h := at_bd hb hp (k := 5 + k) (by omega)
  rw [u1, u2, u3] at h
  exact h
theorem sm_feet {s : Int} {k : Nat} (hk : k < 2) (ho : on s k = false) : sm (hiX b p k) (hiY b p k) (hpZ b p) (alX (b 0) p k) (alY (b 0) p k) (alZ (b 0) p k) (feX b p s k) (feY b p s k) (feZ b p s k) := by
  refine ⟨?_, al_bd hb hp (by omega) (by omega), ?_, ?_, ?_⟩
  · obtain ⟨u1, u2, u3⟩ := pl_hips b p 0 hk
    have h := at_bd hb hp (k := 3 + k) (by omega)
    rw [u1, u2, u3] at h
    exact h
  · unfold feX; rw [ho]; rfl
  · unfold feY; rw [ho]; rfl
  · unfold feZ; rw [ho]; rfl
omit hb hp in
theorem fe_on {s : Int} {k : Nat} (ho : on s k = true) : feX b p s k = hiX b p k ∧ feY b p s k = hiY b p k ∧ feZ b p s k = 0 := by
  unfold feX feY feZ
  rw [ho]
  exact ⟨rfl, rfl, rfl⟩
end
/-- The numbers of both sides: the sign, the leg, the arm, the foot. -/
def sdL : List Int := [-1, 0, 3, 1, 1, 1, 4, 2]
def sdF : Vl := fun i => sdL.getD i 0
theorem sdF_at {k : Nat} (hk : k < 2) : cz 4 (fun j => sdF (k * 4 + j)) = #[.int .i64 (sg k), .int .i64 (k : Int), .int .i64 ((3 + k : Nat) : Int), .int .i64 ((1 + k : Nat) : Int)] := by
  have t : k = 0 ∨ k = 1 := by omega
  rcases t with rfl | rfl <;> rfl
end Go.Proofs.YtighpjhipgobiaaDoor.JntP
