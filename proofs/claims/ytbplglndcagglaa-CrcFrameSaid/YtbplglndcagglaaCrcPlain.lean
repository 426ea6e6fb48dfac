/-
  Plain facts of package crc: the checksum CRC-32C. No word of the program. Condition: none.
-/
import Derived.Test.YtbplglndcagglaaWirePlain
namespace Go.Proofs.Ytbplglndcagglaa.CrcP
open WirP
def m32 : Nat := 4294967295
/-- One bit falls out of the register. -/
def crcBit (c : Nat) : Nat := if c % 2 = 1 then (c / 2) ^^^ 2197175160 else c / 2
def crcBits : Nat → Nat → Nat
  | 0, c => c
  | k + 1, c => crcBit (crcBits k c)
def crcByte (c x : Nat) : Nat := crcBits 8 (c ^^^ x)
def crcRaw : Nat → Bs → Nat
  | c, [] => c
  | c, x :: r => crcRaw (crcByte c x.toNat) r
/-- The checksum of some bytes, whose checksum is s, followed by b. -/
def ext (s : Nat) (b : Bs) : Nat := crcRaw (s ^^^ m32) b ^^^ m32
theorem xor_back (a b : Nat) : a ^^^ b ^^^ b = a := by rw [Nat.xor_assoc, Nat.xor_self, Nat.xor_zero]
theorem xor_none {a b : Nat} (h : a ^^^ b = 0) : a = b := by
  have := xor_back a b
  rw [h, Nat.zero_xor] at this
  exact this.symm
theorem xor_same {a b c : Nat} (h : a ^^^ c = b ^^^ c) : a = b := by
  have := congrArg (· ^^^ c) h
  simp only [xor_back] at this
  exact this
theorem lt_xor {a b : Nat} (h : a < 4294967296) (k : b < 4294967296) : a ^^^ b < 4294967296 := Nat.xor_lt_two_pow (n := 32) h k
theorem bit_lt {c : Nat} (h : c < 4294967296) : crcBit c < 4294967296 := by
  unfold crcBit
  by_cases e : c % 2 = 1
  · rw [if_pos e]; exact lt_xor (by omega) (by omega)
  · rw [if_neg e]; omega
theorem bits_lt {c : Nat} (h : c < 4294967296) : ∀ k, crcBits k c < 4294967296
  | 0 => h
  | k + 1 => bit_lt (bits_lt h k)
theorem byte_lt {c x : Nat} (h : c < 4294967296) (k : x < 256) : crcByte c x < 4294967296 := bits_lt (lt_xor h (by omega)) 8
theorem raw_lt : ∀ (b : Bs) {c : Nat}, c < 4294967296 → crcRaw c b < 4294967296
  | [], _, h => h
  | x :: r, _, h => raw_lt r (byte_lt h x.toNat_lt)
theorem ext_lt {s : Nat} (h : s < 4294967296) (b : Bs) : ext s b < 4294967296 := lt_xor (raw_lt b (lt_xor h (by unfold m32; omega))) (by unfold m32; omega)
theorem raw_app : ∀ (a b : Bs) (c : Nat), crcRaw c (a ++ b) = crcRaw (crcRaw c a) b
  | [], _, _ => rfl
  | x :: r, b, c => raw_app r b (crcByte c x.toNat)
theorem ext_app (s : Nat) (a b : Bs) : ext (ext s a) b = ext s (a ++ b) := by
  unfold ext
  rw [xor_back, raw_app]
theorem ext_nil (s : Nat) : ext s [] = s := xor_back s m32
/-! ### Sums of registers -/
theorem xor_four (a b c d : Nat) : (a ^^^ b) ^^^ (c ^^^ d) = (a ^^^ c) ^^^ (b ^^^ d) := by
  rw [Nat.xor_assoc, Nat.xor_assoc, ← Nat.xor_assoc b c d, Nat.xor_comm b c, Nat.xor_assoc c b d]
theorem par_xor (a b : Nat) : (a ^^^ b) % 2 = (a % 2) ^^^ (b % 2) := Nat.xor_mod_two_pow (n := 1)
theorem bit_xor (a b : Nat) : crcBit (a ^^^ b) = crcBit a ^^^ crcBit b := by
  unfold crcBit
  rw [par_xor, Nat.xor_div_two]
  rcases Nat.mod_two_eq_zero_or_one a with h | h <;> rcases Nat.mod_two_eq_zero_or_one b with k | k <;> rw [h, k]
  · rfl
  · show (a / 2 ^^^ b / 2) ^^^ 2197175160 = a / 2 ^^^ (b / 2 ^^^ 2197175160)
    rw [Nat.xor_assoc]
  · show (a / 2 ^^^ b / 2) ^^^ 2197175160 = (a / 2 ^^^ 2197175160) ^^^ b / 2
    rw [Nat.xor_assoc, Nat.xor_comm (b / 2), ← Nat.xor_assoc]
  · show a / 2 ^^^ b / 2 = (a / 2 ^^^ 2197175160) ^^^ (b / 2 ^^^ 2197175160)
    rw [xor_four, Nat.xor_self, Nat.xor_zero]
theorem bits_xor (a b : Nat) : ∀ k, crcBits k (a ^^^ b) = crcBits k a ^^^ crcBits k b
  | 0 => rfl
  | k + 1 => by show crcBit (crcBits k (a ^^^ b)) = _; rw [bits_xor a b k, bit_xor]; rfl
theorem byte_xor (a b x y : Nat) : crcByte (a ^^^ b) (x ^^^ y) = crcByte a x ^^^ crcByte b y := by
  unfold crcByte
  rw [xor_four, bits_xor]
/-- Lists combined byte by byte. -/
def xor3 : Bs → Bs → Bs → Bs
  | x :: a, y :: b, z :: c => (x ^^^ y ^^^ z) :: xor3 a b c
  | _, _, _ => []
theorem raw_xor3 : ∀ (a b c : Bs) (s t u : Nat), a.length = b.length → b.length = c.length → crcRaw (s ^^^ t ^^^ u) (xor3 a b c) = crcRaw s a ^^^ crcRaw t b ^^^ crcRaw u c
  | [], [], [], _, _, _, _, _ => rfl
  | x :: a, y :: b, z :: c, s, t, u, h, k => by
    show crcRaw (crcByte (s ^^^ t ^^^ u) (x ^^^ y ^^^ z).toNat) (xor3 a b c) = crcRaw (crcByte s x.toNat) a ^^^ crcRaw (crcByte t y.toNat) b ^^^ crcRaw (crcByte u z.toNat) c
    rw [UInt8.toNat_xor, UInt8.toNat_xor, byte_xor, byte_xor]
    exact raw_xor3 a b c _ _ _ (by simpa using h) (by simpa using k)
  | [], _ :: _, _, _, _, _, h, _ => by simp at h
  | _ :: _, [], _, _, _, _, h, _ => by simp at h
  | [], [], _ :: _, _, _, _, _, k => by simp at k
  | _ :: _, _ :: _, [], _, _, _, _, k => by simp at k
theorem sum_xor3 {a b c : Bs} (h : a.length = b.length) (k : b.length = c.length) : ext 0 (xor3 a b c) = ext 0 a ^^^ ext 0 b ^^^ ext 0 c := by
  unfold ext
  rw [Nat.zero_xor]
  have e := raw_xor3 a b c m32 m32 m32 h k
  rw [Nat.xor_self, Nat.zero_xor] at e
  have k : (crcRaw m32 a ^^^ m32) ^^^ (crcRaw m32 b ^^^ m32) = crcRaw m32 a ^^^ crcRaw m32 b := by rw [xor_four, Nat.xor_self, Nat.xor_zero]
  rw [e, k, ← Nat.xor_assoc]
theorem xor3_len : ∀ (a b c : Bs), a.length = b.length → b.length = c.length → (xor3 a b c).length = a.length
  | [], [], [], _, _ => rfl
  | x :: a, y :: b, z :: c, h, k => by
    show (xor3 a b c).length + 1 = a.length + 1
    rw [xor3_len a b c (by simpa using h) (by simpa using k)]
  | [], _ :: _, _, h, _ => by simp at h
  | _ :: _, [], _, h, _ => by simp at h
  | [], [], _ :: _, _, k => by simp at k
  | _ :: _, _ :: _, [], _, k => by simp at k
theorem xor3_at : ∀ (a b c : Bs) (i : Nat) (h1 : i < a.length) (h2 : i < b.length) (h3 : i < c.length), (xor3 a b c)[i]? = some (a[i] ^^^ b[i] ^^^ c[i])
  | x :: a, y :: b, z :: c, 0, _, _, _ => rfl
  | x :: a, y :: b, z :: c, i + 1, h1, h2, h3 => xor3_at a b c i (by simpa using h1) (by simpa using h2) (by simpa using h3)
/-! ### Other bytes have other checksums -/
theorem bit_zero {d : Nat} (hd : d < 4294967296) (h : crcBit d = 0) : d = 0 := by
  unfold crcBit at h
  by_cases e : d % 2 = 1
  · rw [if_pos e] at h
    have := xor_none h
    omega
  · rw [if_neg e] at h
    omega
theorem bit_inj {a b : Nat} (ha : a < 4294967296) (hb : b < 4294967296) (h : crcBit a = crcBit b) : a = b := by
  refine xor_none (bit_zero (lt_xor ha hb) ?_)
  rw [bit_xor, h, Nat.xor_self]
theorem bits_inj {a b : Nat} (ha : a < 4294967296) (hb : b < 4294967296) : ∀ k, crcBits k a = crcBits k b → a = b
  | 0, h => h
  | k + 1, h => bits_inj ha hb k (bit_inj (bits_lt ha k) (bits_lt hb k) h)
theorem raw_inj : ∀ (l : Bs) {a b : Nat}, a < 4294967296 → b < 4294967296 → crcRaw a l = crcRaw b l → a = b
  | [], _, _, _, _, h => h
  | x :: r, a, b, ha, hb, h => by
    have h1 := raw_inj r (byte_lt ha x.toNat_lt) (byte_lt hb x.toNat_lt) h
    have hx : x.toNat < 4294967296 := Nat.lt_trans x.toNat_lt (by decide)
    exact xor_same (bits_inj (lt_xor ha hx) (lt_xor hb hx) 8 h1)
theorem ext_change {s : Nat} (hs : s < 4294967296) (p q : Bs) {x y : UInt8} (hxy : x ≠ y) : ext s (p ++ x :: q) ≠ ext s (p ++ y :: q) := fun h => by
  unfold ext at h
  have h1 := xor_same h
  rw [raw_app, raw_app] at h1
  have hc : crcRaw (s ^^^ m32) p < 4294967296 := raw_lt p (lt_xor hs (by unfold m32; omega))
  have h2 := raw_inj q (byte_lt hc x.toNat_lt) (byte_lt hc y.toNat_lt) h1
  have hx : x.toNat < 4294967296 := Nat.lt_trans x.toNat_lt (by decide)
  have hy : y.toNat < 4294967296 := Nat.lt_trans y.toNat_lt (by decide)
  have h3 := bits_inj (lt_xor hc hx) (lt_xor hc hy) 8 h2
  rw [Nat.xor_comm, Nat.xor_comm _ y.toNat] at h3
  exact hxy (UInt8.toNat_inj.1 (xor_same h3))
/-! ### Four bytes -/
def four (n : Nat) : Bs := [byteN (n % 256), byteN (n / 256 % 256), byteN (n / 65536 % 256), byteN (n / 16777216 % 256)]
theorem four_len (n : Nat) : (four n).length = 4 := rfl
theorem four_inj {a b : Nat} (ha : a < 4294967296) (hb : b < 4294967296) (h : four a = four b) : a = b := by
  unfold four at h
  have key : ∀ u v : Nat, u < 256 → v < 256 → byteN u = byteN v → u = v := fun u v hu hv e => by
    have := congrArg UInt8.toNat e
    rwa [byte_of hu, byte_of hv] at this
  injection h with h1 h
  injection h with h2 h
  injection h with h3 h
  injection h with h4 h
  have k1 := key _ _ (by omega) (by omega) h1
  have k2 := key _ _ (by omega) (by omega) h2
  have k3 := key _ _ (by omega) (by omega) h3
  have k4 := key _ _ (by omega) (by omega) h4
  omega
end Go.Proofs.Ytbplglndcagglaa.CrcP
