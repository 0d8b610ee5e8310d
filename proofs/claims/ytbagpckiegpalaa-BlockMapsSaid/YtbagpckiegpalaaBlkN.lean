/-
  Layer 6: the bytes of a block, part by part. Plain.
-/
import Derived.Test.YtbagpckiegpalaaBlkM
namespace Go.Proofs.Ytbagpckiegpalaa

theorem splice_app {α : Type} (p r m : List α) (o : Nat) (ho : o = p.length) : splice (p ++ r) o m = (p ++ m) ++ r.drop m.length := by
  subst ho
  unfold splice
  simp [List.drop_append, List.append_assoc]

theorem drop_noughts (n k : Nat) : (List.replicate n (0 : UInt8)).drop k = List.replicate (n - k) 0 := by simp

theorem blk_parts (kd n : UInt8) (e a b dt : List UInt8) (he : e.length = 4) (ha : a.length = 4) (hb : b.length = 4) :
    splice (splice (splice (splice (kd :: n :: List.replicate 126 0) 2 e) 6 a) 10 b) 14 dt = (kd :: n :: (e ++ (a ++ (b ++ dt)))) ++ List.replicate (114 - dt.length) 0 := by
  rw [show kd :: n :: List.replicate 126 (0 : UInt8) = [kd, n] ++ List.replicate 126 0 from rfl,
    splice_app _ _ _ 2 rfl, drop_noughts, he, splice_app _ _ _ 6 (by simp [he]), drop_noughts, ha, splice_app _ _ _ 10 (by simp [he, ha]), drop_noughts, hb, splice_app _ _ _ 14 (by simp [he, ha, hb]), drop_noughts]
  simp

theorem blk_front (kd n : UInt8) (e a b dt : List UInt8) (he : e.length = 4) (ha : a.length = 4) (hb : b.length = 4) (hd : dt.length ≤ 110) :
    ((kd :: n :: (e ++ (a ++ (b ++ dt)))) ++ List.replicate (114 - dt.length) (0 : UInt8)).take 124 = kd :: n :: (e ++ (a ++ (b ++ (dt ++ List.replicate (110 - dt.length) 0)))) := by
  have hr : List.replicate (114 - dt.length) (0 : UInt8) = List.replicate (110 - dt.length) 0 ++ List.replicate 4 0 := by
    rw [List.replicate_append_replicate]
    congr 1
    omega
  rw [hr, ← List.append_assoc]
  rw [List.take_left' (by simp [he, ha, hb]; omega)]
  simp

theorem blk_last (l m : List UInt8) (hl : l.length = 128) (hm : m.length = 4) : splice l 124 m = l.take 124 ++ m := by
  unfold splice
  rw [hm, List.drop_of_length_le (by omega), List.append_nil]

end Go.Proofs.Ytbagpckiegpalaa
