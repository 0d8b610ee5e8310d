/-
  Plain words for knots: what Tie makes, what Next and Untie tell. Nothing of a program here.
-/
import Derived.Test.YtbagpckiegpalaaCrc
namespace Go.Proofs.Ytbagpckiegpalaa.Knot

/-- The four bytes of a sum, the lowest first. -/
def byteOf (s : BitVec 32) (i : Nat) : UInt8 := ⟨(s >>> (8 * i)).setWidth 8⟩
def le32 (s : BitVec 32) : List UInt8 := [byteOf s 0, byteOf s 1, byteOf s 2, byteOf s 3]

/-- The number of the first i bytes, the lowest first. -/
def num (l : List UInt8) : Nat → BitVec 32
  | 0 => 0#32
  | i + 1 => num l i ||| ((l.getD i 0).toBitVec.setWidth 32 <<< (8 * i))

def head (n : Nat) : List UInt8 := [UInt8.ofNat n, UInt8.ofNat (n / 256)]
def body (t : List UInt8) : List UInt8 := head t.length ++ t
def knot (t : List UInt8) : List UInt8 := body t ++ le32 (Crc.sum (body t))

def size (p : List UInt8) : Nat := (p.getD 0 0).toNat + 256 * (p.getD 1 0).toNat

/-- The error of the knot in front of p. -/
def err (p : List UInt8) : Int :=
  if p.length < 2 then 2 else if 2048 < size p then 3 else if p.length < size p + 6 then 2
  else if Crc.sum (p.take (size p + 2)) ≠ num (p.drop (size p + 2)) 4 then 5 else 0
/-- The text of the knot in front of p, if there is one; what stands behind it. -/
def text (p : List UInt8) : List UInt8 := if err p = 0 then (p.drop 2).take (size p) else []
def rest (p : List UInt8) : List UInt8 := if err p = 0 then p.drop (size p + 6) else []

theorem num_congr (l m : List UInt8) (i : Nat) (h : ∀ j, j < i → l.getD j 0 = m.getD j 0) : num l i = num m i := by
  induction i with
  | zero => rfl
  | succ i ih =>
    show num l i ||| _ = num m i ||| _
    rw [ih (fun j hj => h j (by omega)), h i (by omega)]

theorem num_bit (l : List UInt8) (i k : Nat) (hi : i ≤ 4) (hk : k < 32) : (num l i).getLsbD k = (decide (k < 8 * i) && (l.getD (k / 8) 0).toBitVec.getLsbD (k % 8)) := by
  induction i with
  | zero => simp [num]
  | succ i ih =>
    show (num l i ||| _).getLsbD k = _
    rw [BitVec.getLsbD_or, ih (by omega), BitVec.getLsbD_shiftLeft, BitVec.getLsbD_setWidth]
    by_cases h1 : k < 8 * i
    · simp [h1, show k < 8 * (i + 1) by omega, hk]
    · by_cases h2 : k < 8 * (i + 1)
      · have e1 : k / 8 = i := by omega
        have e2 : k - 8 * i = k % 8 := by omega
        simp [h1, h2, hk, e1, e2]; omega
      · have : (l.getD i 0).toBitVec.getLsbD (k - 8 * i) = false := BitVec.getLsbD_of_ge _ _ (by omega)
        rw [this]
        simp [h1, h2]

theorem byteOf_bit (s : BitVec 32) (i k : Nat) (hk : k < 8) : (byteOf s i).toBitVec.getLsbD k = s.getLsbD (8 * i + k) := by
  show ((s >>> (8 * i)).setWidth 8).getLsbD k = _
  rw [BitVec.getLsbD_setWidth, BitVec.getLsbD_ushiftRight]
  simp [hk]

theorem le32_get (s : BitVec 32) (j : Nat) (hj : j < 4) : (le32 s).getD j 0 = byteOf s j := by
  match j, hj with
  | 0, _ => rfl
  | 1, _ => rfl
  | 2, _ => rfl
  | 3, _ => rfl

theorem byteOf_val (s : BitVec 32) (j : Nat) : (s.toNat : Int) / 2 ^ (8 * j) % 256 = ((byteOf s j).toNat : Int) := by
  have : (byteOf s j).toNat = s.toNat / 2 ^ (8 * j) % 256 := by
    show ((s >>> (8 * j)).setWidth 8).toNat = _
    rw [BitVec.toNat_setWidth, BitVec.toNat_ushiftRight, Nat.shiftRight_eq_div_pow]
  rw [this]
  simp

theorem le32_step (b : List UInt8) (s : BitVec 32) (j : Nat) (hj : j < 4) : (b ++ (le32 s).take j) ++ [byteOf s j] = b ++ (le32 s).take (j + 1) := by
  match j, hj with
  | 0, _ => simp [le32]
  | 1, _ => simp [le32]
  | 2, _ => simp [le32]
  | 3, _ => simp [le32]

theorem num_le32 (s : BitVec 32) : num (le32 s) 4 = s := by
  apply BitVec.eq_of_getLsbD_eq
  intro k hk
  rw [num_bit _ _ _ (by omega) hk, le32_get _ _ (by omega), byteOf_bit _ _ _ (by omega)]
  simp [show k < 32 from hk, show 8 * (k / 8) + k % 8 = k by omega]

theorem body_length (t : List UInt8) : (body t).length = t.length + 2 := by unfold body head; simp
theorem knot_length (t : List UInt8) : (knot t).length = t.length + 6 := by unfold knot le32; rw [List.length_append, body_length]; rfl

theorem size_body (t r : List UInt8) (h : t.length ≤ 2048) : size (body t ++ r) = t.length := by
  unfold size body head
  simp
  omega

theorem knot_append (t r : List UInt8) : knot t ++ r = body t ++ (le32 (Crc.sum (body t)) ++ r) := by
  unfold knot; rw [List.append_assoc]

theorem err_knot (t r : List UInt8) (h : t.length ≤ 2048) : err (knot t ++ r) = 0 := by
  have hs : size (knot t ++ r) = t.length := by rw [knot_append]; exact size_body _ _ h
  unfold err
  have hl : (knot t ++ r).length = t.length + 6 + r.length := by rw [List.length_append, knot_length]
  rw [hs, hl, if_neg (by omega), if_neg (by omega), if_neg (by omega)]
  have h1 : (knot t ++ r).take (t.length + 2) = body t := by
    rw [knot_append]; exact List.take_left' (body_length t)
  have h2 : (knot t ++ r).drop (t.length + 2) = le32 (Crc.sum (body t)) ++ r := by
    rw [knot_append]; exact List.drop_left' (body_length t)
  rw [h1, h2, num_congr (le32 (Crc.sum (body t)) ++ r) (le32 (Crc.sum (body t))) 4 (fun j hj => by
    simp only [List.getD_eq_getElem?_getD]
    rw [List.getElem?_append_left (by unfold le32; simpa using hj)]), num_le32]
  simp

theorem text_knot (t r : List UInt8) (h : t.length ≤ 2048) : text (knot t ++ r) = t := by
  have hs : size (knot t ++ r) = t.length := by rw [knot_append]; exact size_body _ _ h
  unfold text
  rw [err_knot t r h, if_pos rfl, hs, knot_append]
  unfold body head
  simp

theorem rest_knot (t r : List UInt8) (h : t.length ≤ 2048) : rest (knot t ++ r) = r := by
  have hs : size (knot t ++ r) = t.length := by rw [knot_append]; exact size_body _ _ h
  unfold rest
  rw [err_knot t r h, if_pos rfl, hs]
  exact List.drop_left' (knot_length t)

/-- A knot that is cut anywhere is none: too short. -/
theorem err_cut (t : List UInt8) (k : Nat) (h : t.length ≤ 2048) (hk : k < t.length + 6) : err ((knot t).take k) = 2 := by
  unfold err
  have hl : ((knot t).take k).length = k := by rw [List.length_take, knot_length]; omega
  rw [hl]
  by_cases h2 : k < 2
  · rw [if_pos h2]
  · rw [if_neg h2]
    have hs : size ((knot t).take k) = t.length := by
      have e : size ((knot t).take k) = size (knot t) := by
        unfold size
        simp only [List.getD_eq_getElem?_getD]
        rw [List.getElem?_take, List.getElem?_take, if_pos (by omega), if_pos (by omega)]
      rw [e]
      have := size_body t (le32 (Crc.sum (body t))) h
      exact this
    rw [hs, if_neg (by omega), if_pos hk]

end Go.Proofs.Ytbagpckiegpalaa.Knot
