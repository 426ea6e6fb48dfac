/-
  The places of joints, reckoned: mirror images, quarters, moved bodies, the floor, ends, distances. Nothing of the program. Condition: none.
-/
import Derived.Test.YtighpjhipgobiaaDoorPosturePlain
import Derived.Test.YtighpjhipgobiaaDoorBuildPlain
namespace Go.Proofs.YtighpjhipgobiaaDoor.JntP
open NumP AngP AimP PstP
/-! ### Ways along limbs, and to the sides -/
def wy (n b v : Int) : Int := nearV (n * (8 - b) * v) 131072
def alX (n : Int) (p : Vl) (k : Nat) : Int := wy n (p (4 + k * 3 + 2)) (vX (p (4 + k * 3)) (p (4 + k * 3 + 1)) (p 2))
def alY (n : Int) (p : Vl) (k : Nat) : Int := wy n (p (4 + k * 3 + 2)) (vY (p (4 + k * 3)) (p (4 + k * 3 + 1)) (p 2))
def alZ (n : Int) (p : Vl) (k : Nat) : Int := wy n (p (4 + k * 3 + 2)) (sinV (p (4 + k * 3 + 1)))
def sg (i : Nat) : Int := 2 * (i : Int) - 1
def lf (b p : Vl) : Int := nearV ((if p 3 < 0 then b 7 else b 8) * p 3) 8
def hpZ (b p : Vl) : Int := b 0 + lf b p
def nkX (b p : Vl) : Int := p 0 + alX (b 1) p 2
def nkY (b p : Vl) : Int := p 1 + alY (b 1) p 2
def nkZ (b p : Vl) : Int := hpZ b p + alZ (b 1) p 2
def hdX (b p : Vl) : Int := nkX b p + alX (b 2) p 5
def hdY (b p : Vl) : Int := nkY b p + alY (b 2) p 5
def hdZ (b p : Vl) : Int := nkZ b p + alZ (b 2) p 5
def hiX (b p : Vl) (i : Nat) : Int := p 0 + turX (sg i * b 4) 0 (p 2)
def hiY (b p : Vl) (i : Nat) : Int := p 1 + turY (sg i * b 4) 0 (p 2)
def shX (b p : Vl) (i : Nat) : Int := nkX b p + turX (sg i * b 5) 0 (p 2)
def shY (b p : Vl) (i : Nat) : Int := nkY b p + turY (sg i * b 5) 0 (p 2)
def haX (b p : Vl) (i : Nat) : Int := shX b p i + alX (b 3) p (3 + i)
def haY (b p : Vl) (i : Nat) : Int := shY b p i + alY (b 3) p (3 + i)
def haZ (b p : Vl) (i : Nat) : Int := nkZ b p + alZ (b 3) p (3 + i)
/-- Whether foot i is one of the supports. -/
def on (s : Int) (i : Nat) : Bool := decide (s / (if i = 0 then 1 else 2) % 2 = 1)
def feX (b p : Vl) (s : Int) (i : Nat) : Int := if on s i = true then hiX b p i else hiX b p i + alX (b 0) p i
def feY (b p : Vl) (s : Int) (i : Nat) : Int := if on s i = true then hiY b p i else hiY b p i + alY (b 0) p i
def feZ (b p : Vl) (s : Int) (i : Nat) : Int := if on s i = true then 0 else hpZ b p + alZ (b 0) p i
/-- Place k of the eleven: the hips' middle, the neck, the head, then both hip joints, shoulders, hands, feet. -/
def plX (b p : Vl) (s : Int) : Vl := fun k => if k = 0 then p 0 else if k = 1 then nkX b p else if k = 2 then hdX b p else if k < 5 then hiX b p (k - 3) else if k < 7 then shX b p (k - 5) else if k < 9 then haX b p (k - 7) else feX b p s (k - 9)
def plY (b p : Vl) (s : Int) : Vl := fun k => if k = 0 then p 1 else if k = 1 then nkY b p else if k = 2 then hdY b p else if k < 5 then hiY b p (k - 3) else if k < 7 then shY b p (k - 5) else if k < 9 then haY b p (k - 7) else feY b p s (k - 9)
def plZ (b p : Vl) (s : Int) : Vl := fun k => if k = 0 then hpZ b p else if k = 1 then nkZ b p else if k = 2 then hdZ b p else if k < 5 then hpZ b p else if k < 7 then nkZ b p else if k < 9 then haZ b p (k - 7) else feZ b p s (k - 9)
def joS (b p : Vl) (s : Int) : Vl := tri (plX b p s) (plY b p s) (plZ b p s)
def joE (b p : Vl) (s : Int) : Int := if BuiP.chk b = 0 then (if vaE p = 0 then (if 0 ≤ s ∧ s ≤ 3 then 0 else 1) else vaE p) else BuiP.chk b
def joV (b p : Vl) (s : Int) : Vl := if joE b p s = 0 then joS b p s else nul
theorem joV_yes {b p : Vl} {s : Int} (h : joE b p s = 0) : joV b p s = joS b p s := if_pos h
theorem joV_no {b p : Vl} {s : Int} (h : joE b p s ≠ 0) : joV b p s = nul := if_neg h
theorem jo_yes {b p : Vl} {s : Int} (h : joE b p s = 0) : BuiP.chk b = 0 ∧ vaE p = 0 ∧ 0 ≤ s ∧ s ≤ 3 := by
  unfold joE at h
  by_cases h1 : BuiP.chk b = 0
  · rw [if_pos h1] at h
    by_cases h2 : vaE p = 0
    · rw [if_pos h2] at h
      by_cases h3 : 0 ≤ s ∧ s ≤ 3
      · exact ⟨h1, h2, h3⟩
      · rw [if_neg h3] at h; omega
    · rw [if_neg h2] at h; exact absurd h h2
  · rw [if_neg h1] at h; exact absurd h h1
theorem jo_ok {b p : Vl} {s : Int} (h1 : BuiP.chk b = 0) (h2 : vaE p = 0) (h3 : 0 ≤ s ∧ s ≤ 3) : joE b p s = 0 := by
  unfold joE; rw [if_pos h1, if_pos h2, if_pos h3]
theorem jo_build {b p : Vl} {s : Int} (h : BuiP.chk b ≠ 0) : joE b p s = BuiP.chk b := if_neg h
theorem jo_pose {b p : Vl} {s : Int} (h1 : BuiP.chk b = 0) (h : vaE p ≠ 0) : joE b p s = vaE p := by
  unfold joE; rw [if_pos h1, if_neg h]
theorem jo_range {b p : Vl} {s : Int} (h1 : BuiP.chk b = 0) (h2 : vaE p = 0) (h : ¬ (0 ≤ s ∧ s ≤ 3)) : joE b p s = 1 := by
  unfold joE; rw [if_pos h1, if_pos h2, if_neg h]
/-- The three values of place k. -/
theorem jo_cells (b p : Vl) (s : Int) (k : Nat) : joS b p s (k * 3) = plX b p s k ∧ joS b p s (k * 3 + 1) = plY b p s k ∧ joS b p s (k * 3 + 2) = plZ b p s k := ⟨tri_0 _ _ _ k, tri_1 _ _ _ k, tri_2 _ _ _ k⟩
theorem jo_is {b p : Vl} {s : Int} {f : Vl} (h : ∀ k, k < 11 → f (k * 3) = plX b p s k ∧ f (k * 3 + 1) = plY b p s k ∧ f (k * 3 + 2) = plZ b p s k) : ∀ j, j < 33 → f j = joS b p s j := tri_eq (n := 11) h
theorem pl_hip (b p : Vl) (s : Int) : plX b p s 0 = p 0 ∧ plY b p s 0 = p 1 ∧ plZ b p s 0 = hpZ b p := ⟨rfl, rfl, rfl⟩
theorem pl_neck (b p : Vl) (s : Int) : plX b p s 1 = nkX b p ∧ plY b p s 1 = nkY b p ∧ plZ b p s 1 = nkZ b p := ⟨rfl, rfl, rfl⟩
theorem pl_head (b p : Vl) (s : Int) : plX b p s 2 = hdX b p ∧ plY b p s 2 = hdY b p ∧ plZ b p s 2 = hdZ b p := ⟨rfl, rfl, rfl⟩
theorem pl_hips (b p : Vl) (s : Int) {i : Nat} (h : i < 2) : plX b p s (3 + i) = hiX b p i ∧ plY b p s (3 + i) = hiY b p i ∧ plZ b p s (3 + i) = hpZ b p := by
  have t : i = 0 ∨ i = 1 := by omega
  rcases t with rfl | rfl <;> exact ⟨rfl, rfl, rfl⟩
theorem pl_shoulders (b p : Vl) (s : Int) {i : Nat} (h : i < 2) : plX b p s (5 + i) = shX b p i ∧ plY b p s (5 + i) = shY b p i ∧ plZ b p s (5 + i) = nkZ b p := by
  have t : i = 0 ∨ i = 1 := by omega
  rcases t with rfl | rfl <;> exact ⟨rfl, rfl, rfl⟩
theorem pl_hands (b p : Vl) (s : Int) {i : Nat} (h : i < 2) : plX b p s (7 + i) = haX b p i ∧ plY b p s (7 + i) = haY b p i ∧ plZ b p s (7 + i) = haZ b p i := by
  have t : i = 0 ∨ i = 1 := by omega
  rcases t with rfl | rfl <;> exact ⟨rfl, rfl, rfl⟩
theorem pl_feet (b p : Vl) (s : Int) {i : Nat} (h : i < 2) : plX b p s (9 + i) = feX b p s i ∧ plY b p s (9 + i) = feY b p s i ∧ plZ b p s (9 + i) = feZ b p s i := by
  have t : i = 0 ∨ i = 1 := by omega
  rcases t with rfl | rfl <;> exact ⟨rfl, rfl, rfl⟩
/-! ### Bounds -/
theorem bend_bd {p : Vl} (h : vaE p = 0) {k : Nat} (hk : k < 6) : chk 0 (p (4 + k * 3)) (p (4 + k * 3 + 1)) (p (4 + k * 3 + 2)) = 0 ∧ 0 ≤ p (4 + k * 3 + 2) ∧ p (4 + k * 3 + 2) ≤ 6 := by
  have h1 := (va_yes h).2 k hk
  obtain ⟨h2, h3, h4, h5, h6⟩ := chk_yes h1
  exact ⟨chk_ok (by omega) h3 h4 h5 h6, h5⟩
/-- Products on the way along a limb. -/
theorem wy_bd {n b v : Int} (hn : 0 ≤ n ∧ n ≤ 1500) (hb : 0 ≤ b ∧ b ≤ 6) (hv : -16384 ≤ v ∧ v ≤ 16384) :
    (0 ≤ n * (8 - b) ∧ n * (8 - b) ≤ 12000) ∧ (-196608000 ≤ n * (8 - b) * v ∧ n * (8 - b) * v ≤ 196608000) ∧ -1500 ≤ wy n b v ∧ wy n b v ≤ 1500 := by
  have h1 : -12000 ≤ n * (8 - b) ∧ n * (8 - b) ≤ 12000 := prod_bd (m := 1500) (k := 8) (by omega) (by omega)
  have h2 : 0 ≤ n * (8 - b) := Int.mul_nonneg hn.1 (by omega)
  have h3 : -196608000 ≤ n * (8 - b) * v ∧ n * (8 - b) * v ≤ 196608000 := prod_bd (m := 12000) (k := 16384) h1 hv
  exact ⟨⟨h2, h1.2⟩, h3, near_ge (by decide) (by omega), near_le (by decide) (by omega)⟩
theorem near_rd {s d : Int} (hd : 1 ≤ d ∧ d ≤ 1048576) (h : -2147483648 ≤ s ∧ s ≤ 2147483648) : roundV s d = nearV s d ∧ roundE s d = 0 := by
  have h1 := round_ok ((small_iff s).2 (by omega)) ((small_iff d).2 (by omega)) (by omega)
  rw [if_neg (by omega)] at h1
  exact ⟨h1.2, h1.1⟩
theorem sd_in {d : Int} (h : -1500 ≤ d ∧ d ≤ 1500) : inMM d 0 = true := (inMM_iff d 0).2 (by omega)
theorem sd_bd {d : Int} (h : -400 ≤ d ∧ d ≤ 400) (a : Int) : (-400 ≤ turX d 0 a ∧ turX d 0 a ≤ 400) ∧ -400 ≤ turY d 0 a ∧ turY d 0 a ≤ 400 := by
  have h1 : -(400 * 16384) ≤ d * cosV a ∧ d * cosV a ≤ 400 * 16384 := prod_bd h (cos_bd a)
  have h2 : -(400 * 16384) ≤ d * sinV a ∧ d * sinV a ≤ 400 * 16384 := prod_bd h (sin_bd a)
  unfold turX turY
  exact ⟨⟨near_ge (by decide) (by omega), near_le (by decide) (by omega)⟩, near_ge (by decide) (by omega), near_le (by decide) (by omega)⟩
theorem sg_or (i : Nat) (h : i < 2) (d : Int) : (i = 0 ∧ sg i = -1 ∧ sg i * d = -d) ∨ (i = 1 ∧ sg i = 1 ∧ sg i * d = d) := by
  have t : i = 0 ∨ i = 1 := by omega
  rcases t with rfl | rfl
  · exact .inl ⟨rfl, rfl, by show -1 * d = -d; omega⟩
  · exact .inr ⟨rfl, rfl, by show 1 * d = d; omega⟩
theorem lf_bd {b p : Vl} (hb : BuiP.chk b = 0) (hp : vaE p = 0) : (-1600 ≤ (if p 3 < 0 then b 7 else b 8) * p 3 ∧ (if p 3 < 0 then b 7 else b 8) * p 3 ≤ 1600) ∧ -200 ≤ lf b p ∧ lf b p ≤ 200 := by
  have h1 := (BuiP.ok_of hb).1
  have h7 : 0 ≤ b 7 ∧ b 7 ≤ 200 := h1 7 (by omega)
  have h8 : 0 ≤ b 8 ∧ b 8 ≤ 200 := h1 8 (by omega)
  obtain ⟨-, -, -, h3⟩ := (va_yes hp).1
  have h : -(200 * 8) ≤ (if p 3 < 0 then b 7 else b 8) * p 3 ∧ (if p 3 < 0 then b 7 else b 8) * p 3 ≤ 200 * 8 := prod_bd (by split <;> omega) h3
  refine ⟨by omega, ?_, ?_⟩
  · exact near_ge (by decide) (by omega)
  · exact near_le (by decide) (by omega)
theorem v_f {z e f f' : Int} (h : f % 256 = f' % 256) : vX z e f = vX z e f' ∧ vY z e f = vY z e f' := by
  unfold vX vY
  rw [h]
  exact ⟨rfl, rfl⟩
theorem wy_neg (n b v : Int) : wy n b (-v) = -wy n b v := by
  unfold wy
  rw [Int.mul_neg, near_neg _ _ (by decide)]
/-! ### The mirror image -/
def fl (k : Nat) : Nat := [0, 1, 2, 4, 3, 6, 5, 8, 7, 10, 9].getD k 0
theorem fl_lt {k : Nat} (h : k < 11) : fl k < 11 := by
  have : ∀ k, k < 11 → fl k < 11 := by decide
  exact this k h
theorem sd_neg (d a : Int) : turX (-d) 0 a = -turX d 0 a ∧ turY (-d) 0 a = -turY d 0 a := by
  unfold turX turY
  rw [← near_neg _ _ (by decide), ← near_neg _ _ (by decide)]
  constructor <;> congr 1 <;> rw [Int.neg_mul] <;> omega
theorem sd_mir (d f : Int) : turX d 0 ((-f) % 256) = turX d 0 f ∧ turY d 0 ((-f) % 256) = -turY d 0 f := by
  have h := image (-d) 0 f
  rw [Int.neg_neg] at h
  rw [h.1, h.2, (sd_neg d f).1, (sd_neg d f).2, Int.neg_neg]
  exact ⟨rfl, rfl⟩
theorem al_mir {p : Vl} {n : Int} {k : Nat} (hk : k < 6) : alX n (mpS p) (swN k) = -alX n p k ∧ alY n (mpS p) (swN k) = alY n p k ∧ alZ n (mpS p) (swN k) = alZ n p k := by
  obtain ⟨e0, e1, e2⟩ := mp_cells p (swN k)
  unfold alX alY alZ
  rw [e0, e1, e2]
  unfold mpZ mpL mpB
  rw [swN_swN hk]
  have h2 : mpS p 2 = (-p 2) % 256 := rfl
  obtain ⟨x1, x2⟩ := v_mir (p (4 + k * 3)) (p (4 + k * 3 + 1)) (p 2)
  obtain ⟨y1, y2⟩ := v_f (z := (-p (4 + k * 3)) % 256) (e := p (4 + k * 3 + 1)) (f := (-p 2) % 256) (f' := -p 2) (by omega)
  rw [h2, y1, y2, x1, x2, wy_neg]
  exact ⟨rfl, rfl, rfl⟩
theorem al_mir' {p : Vl} {n : Int} {k m : Nat} (hk : k < 6) (hm : swN k = m) : alX n (mpS p) m = -alX n p k ∧ alY n (mpS p) m = alY n p k ∧ alZ n (mpS p) m = alZ n p k := hm ▸ al_mir hk
theorem hz_mir (b p : Vl) : hpZ b (mpS p) = hpZ b p := rfl
theorem nk_mir (b p : Vl) : nkX b (mpS p) = -nkX b p ∧ nkY b (mpS p) = nkY b p ∧ nkZ b (mpS p) = nkZ b p := by
  obtain ⟨a1, a2, a3⟩ := al_mir' (p := p) (n := b 1) (k := 2) (m := 2) (by omega) rfl
  unfold nkX nkY nkZ
  rw [a1, a2, a3, hz_mir]
  refine ⟨?_, rfl, rfl⟩
  show -p 0 + _ = _
  omega
theorem hd_mir (b p : Vl) : hdX b (mpS p) = -hdX b p ∧ hdY b (mpS p) = hdY b p ∧ hdZ b (mpS p) = hdZ b p := by
  obtain ⟨a1, a2, a3⟩ := al_mir' (p := p) (n := b 2) (k := 5) (m := 5) (by omega) rfl
  obtain ⟨n1, n2, n3⟩ := nk_mir b p
  unfold hdX hdY hdZ
  rw [a1, a2, a3, n1, n2, n3]
  exact ⟨by omega, rfl, rfl⟩
theorem sd_im (i : Nat) (hi : i < 2) (d f : Int) : turX (sg (1 - i) * d) 0 ((-f) % 256) = -turX (sg i * d) 0 f ∧ turY (sg (1 - i) * d) 0 ((-f) % 256) = turY (sg i * d) 0 f := by
  have e : sg (1 - i) * d = -(sg i * d) := by
    rcases sg_or i hi d with ⟨rfl, _, h⟩ | ⟨rfl, _, h⟩
    · rw [h]; show 1 * d = _; omega
    · rw [h]; show -1 * d = _; omega
  rw [e]
  obtain ⟨x, y⟩ := image (sg i * d) 0 f
  exact ⟨x, y⟩
theorem hi_mir (b p : Vl) (i : Nat) (hi : i < 2) : hiX b (mpS p) (1 - i) = -hiX b p i ∧ hiY b (mpS p) (1 - i) = hiY b p i := by
  obtain ⟨x, y⟩ := sd_im i hi (b 4) (p 2)
  unfold hiX hiY
  have h2 : mpS p 2 = (-p 2) % 256 := rfl
  rw [h2, x, y]
  refine ⟨?_, rfl⟩
  show -p 0 + _ = _
  omega
theorem sh_mir (b p : Vl) (i : Nat) (hi : i < 2) : shX b (mpS p) (1 - i) = -shX b p i ∧ shY b (mpS p) (1 - i) = shY b p i := by
  obtain ⟨x, y⟩ := sd_im i hi (b 5) (p 2)
  obtain ⟨n1, n2, n3⟩ := nk_mir b p
  unfold shX shY
  have h2 : mpS p 2 = (-p 2) % 256 := rfl
  rw [h2, x, y, n1, n2]
  exact ⟨by omega, rfl⟩
theorem ha_mir (b p : Vl) (i : Nat) (hi : i < 2) : haX b (mpS p) (1 - i) = -haX b p i ∧ haY b (mpS p) (1 - i) = haY b p i ∧ haZ b (mpS p) (1 - i) = haZ b p i := by
  obtain ⟨s1, s2⟩ := sh_mir b p i hi
  obtain ⟨n1, n2, n3⟩ := nk_mir b p
  obtain ⟨a1, a2, a3⟩ := al_mir' (p := p) (n := b 3) (k := 3 + i) (m := 3 + (1 - i)) (by omega) (by
    have t : i = 0 ∨ i = 1 := by omega
    rcases t with rfl | rfl <;> rfl)
  unfold haX haY haZ
  rw [s1, s2, a1, a2, a3, n3]
  exact ⟨by omega, rfl, rfl⟩
/-- Exchanged supports. -/
def xs (s : Int) : Int := s / 2 + 2 * (s % 2)
theorem xs_on (s : Int) (h : 0 ≤ s ∧ s ≤ 3) : (0 ≤ xs s ∧ xs s ≤ 3) ∧ on (xs s) 0 = on s 1 ∧ on (xs s) 1 = on s 0 := by
  have t : s = 0 ∨ s = 1 ∨ s = 2 ∨ s = 3 := by omega
  rcases t with rfl | rfl | rfl | rfl <;> decide
theorem fe_mir (b p : Vl) (s : Int) (h : 0 ≤ s ∧ s ≤ 3) (i : Nat) (hi : i < 2) : feX b (mpS p) (xs s) (1 - i) = -feX b p s i ∧ feY b (mpS p) (xs s) (1 - i) = feY b p s i ∧ feZ b (mpS p) (xs s) (1 - i) = feZ b p s i := by
  obtain ⟨h1, h2⟩ := hi_mir b p i hi
  obtain ⟨a1, a2, a3⟩ := al_mir' (p := p) (n := b 0) (k := i) (m := 1 - i) (by omega) (by
    have t : i = 0 ∨ i = 1 := by omega
    rcases t with rfl | rfl <;> rfl)
  have ho : on (xs s) (1 - i) = on s i := by
    obtain ⟨-, o1, o2⟩ := xs_on s h
    have t : i = 0 ∨ i = 1 := by omega
    rcases t with rfl | rfl
    · exact o2
    · exact o1
  unfold feX feY feZ
  rw [ho, h1, h2, a1, a2, a3, hz_mir]
  by_cases c : on s i = true
  · simp only [if_pos c]
    refine ⟨?_, ?_, ?_⟩ <;> first | trivial | rfl | omega
  · simp only [if_neg c]
    refine ⟨?_, ?_, ?_⟩ <;> first | trivial | rfl | omega
theorem k11 {k : Nat} (h : k < 11) : k = 0 ∨ k = 1 ∨ k = 2 ∨ (∃ i, i < 2 ∧ k = 3 + i) ∨ (∃ i, i < 2 ∧ k = 5 + i) ∨ (∃ i, i < 2 ∧ k = 7 + i) ∨ ∃ i, i < 2 ∧ k = 9 + i := by
  by_cases h0 : k < 3
  · omega
  · refine .inr (.inr (.inr ?_))
    by_cases h1 : k < 5
    · exact .inl ⟨k - 3, by omega, by omega⟩
    · refine .inr ?_
      by_cases h2 : k < 7
      · exact .inl ⟨k - 5, by omega, by omega⟩
      · refine .inr ?_
        by_cases h3 : k < 9
        · exact .inl ⟨k - 7, by omega, by omega⟩
        · exact .inr ⟨k - 9, by omega, by omega⟩
theorem pl_mir (b p : Vl) (s : Int) (h : 0 ≤ s ∧ s ≤ 3) {k : Nat} (hk : k < 11) : plX b (mpS p) (xs s) k = -plX b p s (fl k) ∧ plY b (mpS p) (xs s) k = plY b p s (fl k) ∧ plZ b (mpS p) (xs s) k = plZ b p s (fl k) := by
  rcases k11 hk with rfl | rfl | rfl | ⟨i, hi, rfl⟩ | ⟨i, hi, rfl⟩ | ⟨i, hi, rfl⟩ | ⟨i, hi, rfl⟩
  · exact ⟨rfl, rfl, rfl⟩
  · exact nk_mir b p
  · exact hd_mir b p
  · have hj : 1 - i < 2 := by omega
    have ef : fl (3 + i) = 3 + (1 - i) := by
      have t : i = 0 ∨ i = 1 := by omega
      rcases t with rfl | rfl <;> rfl
    have m := hi_mir b p (1 - i) hj
    rw [show 1 - (1 - i) = i by omega] at m
    obtain ⟨u1, u2, u3⟩ := pl_hips b (mpS p) (xs s) hi
    obtain ⟨v1, v2, v3⟩ := pl_hips b p s hj
    rw [ef, u1, u2, u3, v1, v2, v3, m.1, m.2]
    exact ⟨rfl, rfl, rfl⟩
  · have hj : 1 - i < 2 := by omega
    have ef : fl (5 + i) = 5 + (1 - i) := by
      have t : i = 0 ∨ i = 1 := by omega
      rcases t with rfl | rfl <;> rfl
    have m := sh_mir b p (1 - i) hj
    rw [show 1 - (1 - i) = i by omega] at m
    obtain ⟨u1, u2, u3⟩ := pl_shoulders b (mpS p) (xs s) hi
    obtain ⟨v1, v2, v3⟩ := pl_shoulders b p s hj
    rw [ef, u1, u2, u3, v1, v2, v3, m.1, m.2, (nk_mir b p).2.2]
    exact ⟨rfl, rfl, rfl⟩
  · have hj : 1 - i < 2 := by omega
    have ef : fl (7 + i) = 7 + (1 - i) := by
      have t : i = 0 ∨ i = 1 := by omega
      rcases t with rfl | rfl <;> rfl
    have m := ha_mir b p (1 - i) hj
    rw [show 1 - (1 - i) = i by omega] at m
    obtain ⟨u1, u2, u3⟩ := pl_hands b (mpS p) (xs s) hi
    obtain ⟨v1, v2, v3⟩ := pl_hands b p s hj
    rw [ef, u1, u2, u3, v1, v2, v3]
    exact m
  · have hj : 1 - i < 2 := by omega
    have ef : fl (9 + i) = 9 + (1 - i) := by
      have t : i = 0 ∨ i = 1 := by omega
      rcases t with rfl | rfl <;> rfl
    have m := fe_mir b p s h (1 - i) hj
    rw [show 1 - (1 - i) = i by omega] at m
    obtain ⟨u1, u2, u3⟩ := pl_feet b (mpS p) (xs s) hi
    obtain ⟨v1, v2, v3⟩ := pl_feet b p s hj
    rw [ef, u1, u2, u3, v1, v2, v3]
    exact m
/-- The mirror image of joints. -/
def mjS (j : Vl) : Vl := tri (fun k => -j (fl k * 3)) (fun k => j (fl k * 3 + 1)) (fun k => j (fl k * 3 + 2))
theorem jo_mir {b p : Vl} {s : Int} (h : joE b p s = 0) : joE b (mpV p) (xs s) = 0 ∧ ∀ i, i < 33 → joV b (mpV p) (xs s) i = mjS (joV b p s) i := by
  obtain ⟨h1, h2, h3⟩ := jo_yes h
  have he : joE b (mpV p) (xs s) = 0 := jo_ok h1 (mp_ok h2) (xs_on s h3).1
  refine ⟨he, ?_⟩
  rw [joV_yes he, joV_yes h, mpV_yes h2]
  refine tri_eq (n := 11) fun k hk => ?_
  obtain ⟨a1, a2, a3⟩ := jo_cells b (mpS p) (xs s) k
  obtain ⟨c1, c2, c3⟩ := jo_cells b p s (fl k)
  obtain ⟨m1, m2, m3⟩ := pl_mir b p s h3 hk
  exact ⟨a1.trans (m1.trans (by rw [c1])), a2.trans (m2.trans c2.symm), a3.trans (m3.trans c3.symm)⟩
/-! ### Rotated by a quarter -/
def tjS (j : Vl) : Vl := tri (fun k => j (k * 3 + 1)) (fun k => -j (k * 3)) (fun k => j (k * 3 + 2))
theorem sd_q (d f : Int) : turX d 0 ((f + 64) % 256) = turY d 0 f ∧ turY d 0 ((f + 64) % 256) = -turX d 0 f := by
  have e1 : sinV ((f + 64) % 256) = cosV f := by rw [cosV_sin]; exact sinV_eq (by omega)
  have e2 : cosV ((f + 64) % 256) = -sinV f := by
    rw [cosV_sin, ← (sin_facts f).2.1]; exact sinV_eq (by omega)
  unfold turX turY
  rw [e1, e2, ← near_neg _ _ (by decide)]
  constructor <;> congr 1
  · rw [Int.mul_neg]; omega
  · omega
theorem rq2 (p : Vl) : rpS p 1 2 = (p 2 + 64) % 256 := by
  show (p 2 + 64 * (1 % 4)) % 256 = _
  omega
theorem rq01 (p : Vl) : rpS p 1 0 = p 1 ∧ rpS p 1 1 = -p 0 := ⟨rfl, rfl⟩
theorem al_q (n : Int) (p : Vl) (k : Nat) : alX n (rpS p 1) k = alY n p k ∧ alY n (rpS p 1) k = -alX n p k ∧ alZ n (rpS p 1) k = alZ n p k := by
  have z0 := rp_up p 1 (k * 3)
  have z1 := rp_up p 1 (k * 3 + 1)
  have z2 := rp_up p 1 (k * 3 + 2)
  unfold alX alY alZ
  rw [Nat.add_assoc 4, Nat.add_assoc 4, z0, z1, z2, rq2]
  obtain ⟨q1, q2⟩ := v_quarter (p (4 + k * 3)) (p (4 + (k * 3 + 1))) (p 2)
  obtain ⟨y1, y2⟩ := v_f (z := p (4 + k * 3)) (e := p (4 + (k * 3 + 1))) (f := (p 2 + 64) % 256) (f' := p 2 + 64) (by omega)
  rw [y1, y2, q1, q2, wy_neg]
  exact ⟨rfl, rfl, rfl⟩
theorem hz_q (b p : Vl) : hpZ b (rpS p 1) = hpZ b p := rfl
theorem nk_q (b p : Vl) : nkX b (rpS p 1) = nkY b p ∧ nkY b (rpS p 1) = -nkX b p ∧ nkZ b (rpS p 1) = nkZ b p := by
  obtain ⟨a1, a2, a3⟩ := al_q (b 1) p 2
  unfold nkX nkY nkZ
  rw [a1, a2, a3, hz_q, (rq01 p).1, (rq01 p).2]
  exact ⟨rfl, by omega, rfl⟩
theorem pl_q (b p : Vl) (s : Int) {k : Nat} (hk : k < 11) : plX b (rpS p 1) s k = plY b p s k ∧ plY b (rpS p 1) s k = -plX b p s k ∧ plZ b (rpS p 1) s k = plZ b p s k := by
  obtain ⟨n1, n2, n3⟩ := nk_q b p
  have hh : ∀ i, hiX b (rpS p 1) i = hiY b p i ∧ hiY b (rpS p 1) i = -hiX b p i := by
    intro i
    obtain ⟨x, y⟩ := sd_q (sg i * b 4) (p 2)
    unfold hiX hiY
    rw [rq2, x, y, (rq01 p).1, (rq01 p).2]
    exact ⟨rfl, by omega⟩
  have hs : ∀ i, shX b (rpS p 1) i = shY b p i ∧ shY b (rpS p 1) i = -shX b p i := by
    intro i
    obtain ⟨x, y⟩ := sd_q (sg i * b 5) (p 2)
    unfold shX shY
    rw [rq2, x, y, n1, n2]
    exact ⟨rfl, by omega⟩
  rcases k11 hk with rfl | rfl | rfl | ⟨i, hi, rfl⟩ | ⟨i, hi, rfl⟩ | ⟨i, hi, rfl⟩ | ⟨i, hi, rfl⟩
  · exact ⟨rfl, rfl, rfl⟩
  · exact ⟨n1, n2, n3⟩
  · obtain ⟨a1, a2, a3⟩ := al_q (b 2) p 5
    obtain ⟨u1, u2, u3⟩ := pl_head b (rpS p 1) s
    obtain ⟨v1, v2, v3⟩ := pl_head b p s
    rw [u1, u2, u3, v1, v2, v3]
    unfold hdX hdY hdZ
    rw [a1, a2, a3, n1, n2, n3]
    exact ⟨rfl, by omega, rfl⟩
  · obtain ⟨u1, u2, u3⟩ := pl_hips b (rpS p 1) s hi
    obtain ⟨v1, v2, v3⟩ := pl_hips b p s hi
    rw [u1, u2, u3, v1, v2, v3, (hh i).1, (hh i).2]
    exact ⟨rfl, rfl, rfl⟩
  · obtain ⟨u1, u2, u3⟩ := pl_shoulders b (rpS p 1) s hi
    obtain ⟨v1, v2, v3⟩ := pl_shoulders b p s hi
    rw [u1, u2, u3, v1, v2, v3, (hs i).1, (hs i).2, n3]
    exact ⟨rfl, rfl, rfl⟩
  · obtain ⟨u1, u2, u3⟩ := pl_hands b (rpS p 1) s hi
    obtain ⟨v1, v2, v3⟩ := pl_hands b p s hi
    obtain ⟨a1, a2, a3⟩ := al_q (b 3) p (3 + i)
    rw [u1, u2, u3, v1, v2, v3]
    unfold haX haY haZ
    rw [a1, a2, a3, (hs i).1, (hs i).2, n3]
    exact ⟨rfl, by omega, rfl⟩
  · obtain ⟨u1, u2, u3⟩ := pl_feet b (rpS p 1) s hi
    obtain ⟨v1, v2, v3⟩ := pl_feet b p s hi
    obtain ⟨a1, a2, a3⟩ := al_q (b 0) p i
    rw [u1, u2, u3, v1, v2, v3]
    unfold feX feY feZ
    rw [a1, a2, a3, (hh i).1, (hh i).2, hz_q]
    by_cases c : on s i = true
    · simp only [if_pos c]
      refine ⟨?_, ?_, ?_⟩ <;> first | trivial | rfl | omega
    · simp only [if_neg c]
      refine ⟨?_, ?_, ?_⟩ <;> first | trivial | rfl | omega
theorem jo_q {b p : Vl} {s : Int} (h : joE b p s = 0) : joE b (rpV p 1) s = 0 ∧ ∀ i, i < 33 → joV b (rpV p 1) s i = tjS (joV b p s) i := by
  obtain ⟨h1, h2, h3⟩ := jo_yes h
  have he : joE b (rpV p 1) s = 0 := jo_ok h1 (rp_ok h2 1) h3
  refine ⟨he, ?_⟩
  rw [joV_yes he, joV_yes h, rpV_yes h2]
  refine tri_eq (n := 11) fun k hk => ?_
  obtain ⟨a1, a2, a3⟩ := jo_cells b (rpS p 1) s k
  obtain ⟨c1, c2, c3⟩ := jo_cells b p s k
  obtain ⟨m1, m2, m3⟩ := pl_q b p s hk
  exact ⟨a1.trans (m1.trans c2.symm), a2.trans (m2.trans (by rw [c1])), a3.trans (m3.trans c3.symm)⟩
/-! ### Moved -/
def at2 (p : Vl) (x y : Int) : Vl := fun i => if i = 0 then x else if i = 1 then y else p i
theorem at2_up (p : Vl) (x y : Int) (k : Nat) : at2 p x y (4 + k) = p (4 + k) := by
  unfold at2; rw [if_neg (by omega), if_neg (by omega)]
theorem al_at (n : Int) (p : Vl) (x y : Int) (k : Nat) : alX n (at2 p x y) k = alX n p k ∧ alY n (at2 p x y) k = alY n p k ∧ alZ n (at2 p x y) k = alZ n p k := by
  have z0 := at2_up p x y (k * 3)
  have z1 := at2_up p x y (k * 3 + 1)
  have z2 := at2_up p x y (k * 3 + 2)
  unfold alX alY alZ
  rw [Nat.add_assoc 4, Nat.add_assoc 4, z0, z1, z2]
  exact ⟨rfl, rfl, rfl⟩
theorem pl_at (b p : Vl) (s x y : Int) {k : Nat} (hk : k < 11) : plX b (at2 p x y) s k - plX b p s k = x - p 0 ∧ plY b (at2 p x y) s k - plY b p s k = y - p 1 ∧ plZ b (at2 p x y) s k = plZ b p s k := by
  have g0 : at2 p x y 0 = x := rfl
  have g1 : at2 p x y 1 = y := rfl
  have g2 : at2 p x y 2 = p 2 := rfl
  have hz : hpZ b (at2 p x y) = hpZ b p := rfl
  obtain ⟨a1, a2, a3⟩ := al_at (b 1) p x y 2
  have n1 : nkX b (at2 p x y) - nkX b p = x - p 0 := by unfold nkX; rw [a1, g0]; omega
  have n2 : nkY b (at2 p x y) - nkY b p = y - p 1 := by unfold nkY; rw [a2, g1]; omega
  have n3 : nkZ b (at2 p x y) = nkZ b p := by unfold nkZ; rw [a3, hz]
  have hh : ∀ i, hiX b (at2 p x y) i - hiX b p i = x - p 0 ∧ hiY b (at2 p x y) i - hiY b p i = y - p 1 := by
    intro i
    unfold hiX hiY
    rw [g0, g1, g2]
    omega
  have hs : ∀ i, shX b (at2 p x y) i - shX b p i = x - p 0 ∧ shY b (at2 p x y) i - shY b p i = y - p 1 := by
    intro i
    unfold shX shY
    rw [g2]
    omega
  rcases k11 hk with rfl | rfl | rfl | ⟨i, hi, rfl⟩ | ⟨i, hi, rfl⟩ | ⟨i, hi, rfl⟩ | ⟨i, hi, rfl⟩
  · exact ⟨rfl, rfl, rfl⟩
  · exact ⟨n1, n2, n3⟩
  · obtain ⟨c1, c2, c3⟩ := al_at (b 2) p x y 5
    obtain ⟨u1, u2, u3⟩ := pl_head b (at2 p x y) s
    obtain ⟨v1, v2, v3⟩ := pl_head b p s
    rw [u1, u2, u3, v1, v2, v3]
    unfold hdX hdY hdZ
    rw [c1, c2, c3, n3]
    exact ⟨by omega, by omega, rfl⟩
  · obtain ⟨u1, u2, u3⟩ := pl_hips b (at2 p x y) s hi
    obtain ⟨v1, v2, v3⟩ := pl_hips b p s hi
    rw [u1, u2, u3, v1, v2, v3]
    exact ⟨(hh i).1, (hh i).2, hz⟩
  · obtain ⟨u1, u2, u3⟩ := pl_shoulders b (at2 p x y) s hi
    obtain ⟨v1, v2, v3⟩ := pl_shoulders b p s hi
    rw [u1, u2, u3, v1, v2, v3]
    exact ⟨(hs i).1, (hs i).2, n3⟩
  · obtain ⟨u1, u2, u3⟩ := pl_hands b (at2 p x y) s hi
    obtain ⟨v1, v2, v3⟩ := pl_hands b p s hi
    obtain ⟨c1, c2, c3⟩ := al_at (b 3) p x y (3 + i)
    have := hs i
    rw [u1, u2, u3, v1, v2, v3]
    unfold haX haY haZ
    rw [c1, c2, c3, n3]
    exact ⟨by omega, by omega, rfl⟩
  · obtain ⟨u1, u2, u3⟩ := pl_feet b (at2 p x y) s hi
    obtain ⟨v1, v2, v3⟩ := pl_feet b p s hi
    obtain ⟨c1, c2, c3⟩ := al_at (b 0) p x y i
    have := hh i
    rw [u1, u2, u3, v1, v2, v3]
    unfold feX feY feZ
    rw [c1, c2, c3, hz]
    by_cases c : on s i = true
    · simp only [if_pos c]
      refine ⟨?_, ?_, ?_⟩ <;> first | trivial | rfl | omega
    · simp only [if_neg c]
      refine ⟨?_, ?_, ?_⟩ <;> first | trivial | rfl | omega
theorem jo_at {b p : Vl} {s x y : Int} (h : joE b p s = 0) (h' : joE b (at2 p x y) s = 0) {k : Nat} (hk : k < 11) :
    joV b (at2 p x y) s (k * 3) - joV b p s (k * 3) = x - p 0 ∧ joV b (at2 p x y) s (k * 3 + 1) - joV b p s (k * 3 + 1) = y - p 1 ∧ joV b (at2 p x y) s (k * 3 + 2) = joV b p s (k * 3 + 2) := by
  rw [joV_yes h, joV_yes h']
  obtain ⟨a1, a2, a3⟩ := jo_cells b (at2 p x y) s k
  obtain ⟨c1, c2, c3⟩ := jo_cells b p s k
  rw [a1, a2, a3, c1, c2, c3]
  exact pl_at b p s x y hk
/-! ### The floor, and bounds of all places -/
theorem jo_floor {b p : Vl} {s : Int} (h : joE b p s = 0) : (∀ i, i < 2 → on s i = true → joV b p s ((9 + i) * 3) = joV b p s ((3 + i) * 3) ∧ joV b p s ((9 + i) * 3 + 1) = joV b p s ((3 + i) * 3 + 1) ∧ joV b p s ((9 + i) * 3 + 2) = 0) ∧
    (joV b p s 0 = p 0 ∧ joV b p s 1 = p 1) ∧
    (joV b p s 0 - joV b p s 9 = joV b p s 12 - joV b p s 0 ∧ joV b p s 1 - joV b p s 10 = joV b p s 13 - joV b p s 1 ∧ joV b p s 2 = joV b p s 11 ∧ joV b p s 14 = joV b p s 2) ∧
    (joV b p s 3 - joV b p s 15 = joV b p s 18 - joV b p s 3 ∧ joV b p s 4 - joV b p s 16 = joV b p s 19 - joV b p s 4 ∧ joV b p s 5 = joV b p s 17 ∧ joV b p s 20 = joV b p s 5) := by
  rw [joV_yes h]
  refine ⟨fun i hi ho => ?_, ⟨rfl, rfl⟩, ?_, ?_⟩
  · obtain ⟨a1, a2, a3⟩ := jo_cells b p s (9 + i)
    obtain ⟨c1, c2, c3⟩ := jo_cells b p s (3 + i)
    obtain ⟨u1, u2, u3⟩ := pl_feet b p s hi
    obtain ⟨v1, v2, v3⟩ := pl_hips b p s hi
    rw [a1, a2, a3, c1, c2, u1, u2, u3, v1, v2]
    unfold feX feY feZ
    rw [if_pos ho, if_pos ho, if_pos ho]
    exact ⟨rfl, rfl, rfl⟩
  · have e0 : sg 0 * b 4 = -(b 4) := by show -1 * _ = _; omega
    have e1 : sg 1 * b 4 = b 4 := by show 1 * _ = _; omega
    obtain ⟨x, y⟩ := sd_neg (b 4) (p 2)
    refine ⟨?_, ?_, rfl, rfl⟩
    · show p 0 - (p 0 + turX (sg 0 * b 4) 0 (p 2)) = p 0 + turX (sg 1 * b 4) 0 (p 2) - p 0
      rw [e0, e1, x]; omega
    · show p 1 - (p 1 + turY (sg 0 * b 4) 0 (p 2)) = p 1 + turY (sg 1 * b 4) 0 (p 2) - p 1
      rw [e0, e1, y]; omega
  · have e0 : sg 0 * b 5 = -(b 5) := by show -1 * _ = _; omega
    have e1 : sg 1 * b 5 = b 5 := by show 1 * _ = _; omega
    obtain ⟨x, y⟩ := sd_neg (b 5) (p 2)
    refine ⟨?_, ?_, rfl, rfl⟩
    · show nkX b p - (nkX b p + turX (sg 0 * b 5) 0 (p 2)) = nkX b p + turX (sg 1 * b 5) 0 (p 2) - nkX b p
      rw [e0, e1, x]; omega
    · show nkY b p - (nkY b p + turY (sg 0 * b 5) 0 (p 2)) = nkY b p + turY (sg 1 * b 5) 0 (p 2) - nkY b p
      rw [e0, e1, y]; omega
/-- Bounds of the parts of a valid body in a valid pose. -/
theorem pt_bd {b p : Vl} (hb : BuiP.chk b = 0) (hp : vaE p = 0) :
    (∀ n k, 0 ≤ n → n ≤ 1500 → k < 6 → (-1500 ≤ alX n p k ∧ alX n p k ≤ 1500) ∧ (-1500 ≤ alY n p k ∧ alY n p k ≤ 1500) ∧ -1500 ≤ alZ n p k ∧ alZ n p k ≤ 1500) ∧ (200 ≤ hpZ b p ∧ hpZ b p ≤ 1700) := by
  have h0 : 400 ≤ b 0 ∧ b 0 ≤ 1500 := (BuiP.ok_of hb).1 0 (by omega)
  have hl := (lf_bd hb hp).2
  refine ⟨fun n k h1 h2 hk => ?_, by unfold hpZ; omega⟩
  obtain ⟨-, h3⟩ := bend_bd hp hk
  obtain ⟨w1, w2⟩ := v_bd (p (4 + k * 3)) (p (4 + k * 3 + 1)) (p 2)
  exact ⟨(wy_bd ⟨h1, h2⟩ h3 w1).2.2, (wy_bd ⟨h1, h2⟩ h3 w2).2.2, (wy_bd ⟨h1, h2⟩ h3 (sin_bd _)).2.2⟩
/-- Every place of valid joints is near. -/
theorem pl_bd {b p : Vl} {s : Int} (h : joE b p s = 0) {k : Nat} (hk : k < 11) : (-40000 ≤ plX b p s k ∧ plX b p s k ≤ 40000) ∧ (-40000 ≤ plY b p s k ∧ plY b p s k ≤ 40000) ∧ -40000 ≤ plZ b p s k ∧ plZ b p s k ≤ 40000 := by
  obtain ⟨hb, hp, hs⟩ := jo_yes h
  obtain ⟨ha, hz⟩ := pt_bd hb hp
  have hL := (BuiP.ok_of hb).1
  have len : ∀ i, i < 11 → 0 ≤ b i ∧ b i ≤ 1500 := fun i hi => BuiP.len_bd hL hi
  have h4 : 20 ≤ b 4 ∧ b 4 ≤ 300 := hL 4 (by omega)
  have h5 : 50 ≤ b 5 ∧ b 5 ≤ 400 := hL 5 (by omega)
  obtain ⟨p0, p1, -, -⟩ := (va_yes hp).1
  have s4 : ∀ i, i < 2 → -400 ≤ sg i * b 4 ∧ sg i * b 4 ≤ 400 := fun i hi => by rcases sg_or i hi (b 4) with ⟨_, _, e⟩ | ⟨_, _, e⟩ <;> omega
  have s5 : ∀ i, i < 2 → -400 ≤ sg i * b 5 ∧ sg i * b 5 ≤ 400 := fun i hi => by rcases sg_or i hi (b 5) with ⟨_, _, e⟩ | ⟨_, _, e⟩ <;> omega
  obtain ⟨t1, t2, t3⟩ := ha (b 1) 2 (len 1 (by omega)).1 (len 1 (by omega)).2 (by omega)
  have n1 : -34268 ≤ nkX b p ∧ nkX b p ≤ 34268 := by unfold nkX; omega
  have n2 : -34268 ≤ nkY b p ∧ nkY b p ≤ 34268 := by unfold nkY; omega
  have n3 : -1300 ≤ nkZ b p ∧ nkZ b p ≤ 3200 := by unfold nkZ; omega
  rcases k11 hk with rfl | rfl | rfl | ⟨i, hi, rfl⟩ | ⟨i, hi, rfl⟩ | ⟨i, hi, rfl⟩ | ⟨i, hi, rfl⟩
  · obtain ⟨u1, u2, u3⟩ := pl_hip b p s
    rw [u1, u2, u3]; omega
  · obtain ⟨u1, u2, u3⟩ := pl_neck b p s
    rw [u1, u2, u3]; omega
  · obtain ⟨u1, u2, u3⟩ := pl_head b p s
    obtain ⟨c1, c2, c3⟩ := ha (b 2) 5 (len 2 (by omega)).1 (len 2 (by omega)).2 (by omega)
    rw [u1, u2, u3]
    unfold hdX hdY hdZ
    omega
  · obtain ⟨u1, u2, u3⟩ := pl_hips b p s hi
    obtain ⟨c1, c2⟩ := sd_bd (s4 i hi) (p 2)
    rw [u1, u2, u3]
    unfold hiX hiY
    omega
  · obtain ⟨u1, u2, u3⟩ := pl_shoulders b p s hi
    obtain ⟨c1, c2⟩ := sd_bd (s5 i hi) (p 2)
    rw [u1, u2, u3]
    unfold shX shY
    omega
  · obtain ⟨u1, u2, u3⟩ := pl_hands b p s hi
    obtain ⟨c1, c2⟩ := sd_bd (s5 i hi) (p 2)
    obtain ⟨d1, d2, d3⟩ := ha (b 3) (3 + i) (len 3 (by omega)).1 (len 3 (by omega)).2 (by omega)
    rw [u1, u2, u3]
    unfold haX haY haZ shX shY
    omega
  · obtain ⟨u1, u2, u3⟩ := pl_feet b p s hi
    obtain ⟨c1, c2⟩ := sd_bd (s4 i hi) (p 2)
    obtain ⟨d1, d2, d3⟩ := ha (b 0) i (len 0 (by omega)).1 (len 0 (by omega)).2 (by omega)
    rw [u1, u2, u3]
    unfold feX feY feZ hiX hiY
    by_cases c : on s i = true
    · simp only [if_pos c]; omega
    · simp only [if_neg c]; omega
theorem jo_bd {b p : Vl} {s : Int} (h : joE b p s = 0) : ∀ i, i < 33 → -40000 ≤ joV b p s i ∧ joV b p s i ≤ 40000 := by
  intro i hi
  rw [joV_yes h]
  obtain ⟨a1, a2, a3⟩ := jo_cells b p s (i / 3)
  obtain ⟨x, y, z⟩ := pl_bd h (k := i / 3) (by omega)
  have t : i = i / 3 * 3 ∨ i = i / 3 * 3 + 1 ∨ i = i / 3 * 3 + 2 := by omega
  rcases t with t | t | t
  · rw [t, a1]; exact x
  · rw [t, a2]; exact y
  · rw [t, a3]; exact z
/-! ### Ends, distances, the least height -/
/-- Which place the end of limb k is. -/
def pe (k : Nat) : Nat := [9, 10, 1, 7, 8, 2].getD k 0
def enE (l : Int) : Int := if 0 ≤ l ∧ l < 6 then 0 else 9
def enX (j : Vl) (l : Int) : Int := if 0 ≤ l ∧ l < 6 then j (pe l.toNat * 3) else 0
def enY (j : Vl) (l : Int) : Int := if 0 ≤ l ∧ l < 6 then j (pe l.toNat * 3 + 1) else 0
def enZ (j : Vl) (l : Int) : Int := if 0 ≤ l ∧ l < 6 then j (pe l.toNat * 3 + 2) else 0
/-- The ends of the limbs, one after the other. -/
def ens (j : Vl) : Vl := fun i => j (pe (i / 3) * 3 + i % 3)
theorem ens_at (j : Vl) (k : Nat) : ens j (k * 3) = j (pe k * 3) ∧ ens j (k * 3 + 1) = j (pe k * 3 + 1) ∧ ens j (k * 3 + 2) = j (pe k * 3 + 2) := by
  unfold ens
  refine ⟨?_, ?_, ?_⟩
  · rw [show k * 3 / 3 = k by omega, show k * 3 % 3 = 0 by omega, Nat.add_zero]
  · rw [show (k * 3 + 1) / 3 = k by omega, show (k * 3 + 1) % 3 = 1 by omega]
  · rw [show (k * 3 + 2) / 3 = k by omega, show (k * 3 + 2) % 3 = 2 by omega]
/-- The least of the head's height and those of the first n ends. -/
def mn (j : Vl) : Nat → Int
  | 0 => j 8
  | n + 1 => min (mn j n) (ens j (n * 3 + 2))
def loZ (j : Vl) : Int := mn j 6
theorem lo_is (j : Vl) : loZ j = min (min (min (min (min (j 29) (j 32)) (j 23)) (j 26)) (j 5)) (j 8) := by
  show min (min (min (min (min (min (j 8) (j 29)) (j 32)) (j 5)) (j 23)) (j 26)) (j 8) = _
  omega
theorem lo_mir {b p : Vl} {s : Int} (h : joE b p s = 0) : loZ (joV b (mpV p) (xs s)) = loZ (joV b p s) := by
  have hm := (jo_mir h).2
  rw [lo_is, lo_is, hm 29 (by omega), hm 32 (by omega), hm 23 (by omega), hm 26 (by omega), hm 5 (by omega), hm 8 (by omega)]
  show min (min (min (min (min (joV b p s 32) (joV b p s 29)) (joV b p s 26)) (joV b p s 23)) (joV b p s 5)) (joV b p s 8) = _
  omega
def nearB (n : Int) : Bool := decide (-65536 ≤ n) && decide (n ≤ 65536)
theorem nearB_iff (n : Int) : nearB n = true ↔ -65536 ≤ n ∧ n ≤ 65536 := by unfold nearB; rw [Bool.and_eq_true, decide_eq_true_eq, decide_eq_true_eq]
def nearV3 (x y z : Int) : Prop := (-65536 ≤ x ∧ x ≤ 65536) ∧ (-65536 ≤ y ∧ y ≤ 65536) ∧ -65536 ≤ z ∧ z ≤ 65536
instance (x y z : Int) : Decidable (nearV3 x y z) := by unfold nearV3; infer_instance
def sq (n : Int) : Int := n * n
theorem sq_bd {n : Int} (h : -131072 ≤ n ∧ n ≤ 131072) : 0 ≤ n * n ∧ n * n ≤ 17179869184 := by
  have h1 : -(131072 * 131072) ≤ n * n ∧ n * n ≤ 131072 * 131072 := prod_bd h h
  refine ⟨?_, by omega⟩
  by_cases c : 0 ≤ n
  · exact Int.mul_nonneg c c
  · rw [← Int.neg_mul_neg]; exact Int.mul_nonneg (by omega) (by omega)
theorem sq_flip (a b : Int) : (b - a) * (b - a) = (a - b) * (a - b) := by
  rw [← Int.neg_mul_neg, Int.neg_sub]
def dsE (x y z u v t : Int) : Int := if nearV3 x y z ∧ nearV3 u v t then 0 else 1
def dsV (x y z u v t : Int) : Int := if nearV3 x y z ∧ nearV3 u v t then (x - u) * (x - u) + (y - v) * (y - v) + (z - t) * (z - t) else 0
theorem ds_yes {x y z u v t : Int} (h : nearV3 x y z) (h' : nearV3 u v t) : dsE x y z u v t = 0 ∧ dsV x y z u v t = (x - u) * (x - u) + (y - v) * (y - v) + (z - t) * (z - t) := ⟨if_pos ⟨h, h'⟩, if_pos ⟨h, h'⟩⟩
theorem ds_no {x y z u v t : Int} (h : ¬ (nearV3 x y z ∧ nearV3 u v t)) : dsE x y z u v t = 1 ∧ dsV x y z u v t = 0 := ⟨if_neg h, if_neg h⟩
theorem ds_flip (x y z u v t : Int) : dsE u v t x y z = dsE x y z u v t ∧ dsV u v t x y z = dsV x y z u v t := by
  by_cases h : nearV3 x y z ∧ nearV3 u v t
  · rw [(ds_yes h.1 h.2).1, (ds_yes h.1 h.2).2, (ds_yes h.2 h.1).1, (ds_yes h.2 h.1).2, sq_flip x u, sq_flip y v, sq_flip z t]
    exact ⟨rfl, rfl⟩
  · rw [(ds_no h).1, (ds_no h).2, (ds_no (fun x => h x.symm)).1, (ds_no (fun x => h x.symm)).2]
    exact ⟨rfl, rfl⟩
end Go.Proofs.YtighpjhipgobiaaDoor.JntP
