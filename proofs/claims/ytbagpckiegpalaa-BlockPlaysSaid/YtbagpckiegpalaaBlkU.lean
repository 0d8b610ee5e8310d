/-
  Layer 6: a slab of one sector, written and read. Plain.
-/
import Derived.Test.YtbagpckiegpalaaBlkO
import Derived.Test.YtbagpckiegpalaaSlabP
import Derived.StillTailTactics
namespace Go.Proofs.Ytbagpckiegpalaa
open Go.RowKit

structure Sl.one (s : Sl) (k : Nat) : Prop where
  n : s.n = 1
  now : s.now.length = 128
  off : s.off = false
  armed : s.armed = 0
  steps : s.steps = k
  way : s.way.length = k

theorem one_new : (Sl.new 1).one 0 := ⟨rfl, by simp [Sl.new], rfl, rfl, rfl, rfl⟩

theorem pad_all (p : List UInt8) (h : p.length = 128) : pad p = p := by
  unfold pad
  simp [h]

theorem Sl.one.write {s : Sl} {k : Nat} (h : s.one k) (p : List UInt8) (hp : p.length = 128) : (s.write 0 p).2 = 0 ∧ (s.write 0 p).1.one (k + 1) ∧ (s.write 0 p).1.read 0 = (p, 0) := by
  have hh : s.has 0 = true := by simp [Sl.has, h.n]
  have e : s.write 0 p = ((s.put 0 p).step, 0) := by
    unfold Sl.write
    rw [hh, if_neg (by simp), if_neg (by omega), if_neg (by rw [h.off]; simp), pad_all p hp]
    simp [Sl.stepE, h.armed]
  have hs := put_sect s 0 0 p (by rw [h.now, h.n]) (by rw [h.n]; omega) hp
  rw [if_pos rfl] at hs
  rw [e]
  refine ⟨rfl, ⟨h.n, ?_, ?_, ?_, ?_, ?_⟩, ?_⟩
  · simp [Sl.step, Sl.put, h.now, hp]
  · simp [Sl.step, Sl.put, h.off, h.armed]
  · simp [Sl.step, Sl.put, h.armed]
  · simp [Sl.step, Sl.put, h.steps]
  · simp [Sl.step, Sl.put, h.way]
  · unfold Sl.read
    rw [if_neg (by simp [Sl.has, Sl.step, Sl.put, h.n]), if_neg (by simp [Sl.step, Sl.put, h.off, h.armed])]
    exact congrArg (·, 0) hs

end Go.Proofs.Ytbagpckiegpalaa
