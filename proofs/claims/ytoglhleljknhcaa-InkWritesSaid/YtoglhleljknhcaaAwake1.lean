/-
  quadrillelaw01.awake: its contract.
-/
import Derived.Test.YtoglhleljknhcaaEye
import Derived.Test.YtoglhleljknhcaaInkN
import Derived.Test.YtoglhleljknhcaaSame
namespace Go.Proofs.Ytoglhleljknhcaa
open Go.RowKit

theorem PenAt.low {S : Nat → Prop} {w w' : World} {base b : Nat} {v : Value} {l : List UInt8} {bad : Bool} (h : PenAt w base b v l bad) (hk : Keeps S w w') (hS : ∀ k, S k → penS b v k) (hb : base ≤ w.heap.size) : Below base w w' :=
  hk.below hb fun i hi => by
    rcases hS i hi with rfl | h'
    · exact h.2.2.2
    · exact (h.2.1.lt i h').1

theorem EyeAt.low {w w' : World} {base b : Nat} {v : Value} {r : List UInt8} {f : Bool} (h : EyeAt w base b v r f) (hk : Keeps (fun k => k = b) w w') (hb : base ≤ w.heap.size) : Below base w w' :=
  hk.below hb fun i hi => by subst hi; exact h.2.2.2

theorem EyeAt.base {w : World} {b0 b1 b : Nat} {v : Value} {r : List UInt8} {f : Bool} (h : EyeAt w b1 b v r f) (hb : b0 ≤ b1) : EyeAt w b0 b v r f :=
  ⟨h.1, h.2.1, fun k hk => ⟨(h.2.2.1 k hk).1, Nat.le_trans hb (h.2.2.1 k hk).2.1, (h.2.2.1 k hk).2.2⟩, Nat.le_trans hb h.2.2.2⟩

def seen : List UInt8 := [172, 2, 2, 97, 98]
theorem seen_eq : ([] ++ Ink.num 300) ++ Ink.text [97, 98] = seen := by decide
theorem none_there : Ink.front [128, 0] = (0, 0) := by decide

set_option maxRecDepth 100000 in
set_option maxHeartbeats 1000000 in
theorem awake1_any (w : World) :
    Calls Try.prog 15 #[] w fun e w' => e = .returned (.bool true) ∧ Below w.heap.size w w' := by
  have kc := fun (w : World) (C : Array Value) (n c : Nat) => Lib.run_convert_bytes_const (P := Try.prog) w 23 5 C n c Try.underlying23 Try.underlying5
  go_enter Try.func15, Try.ntmps15
  go_wp2_with fail
  refine (new_any w).mono ?_
  rintro e w1 ⟨rfl, hp1, hb1, hsz1⟩
  have HSZ := hid hsz1
  clear hsz1
  go_wp2_with fail
  refine (pennum_at _ w.heap.size _ [] 300 _ rfl (by omega) w1 hp1 (by simp) hb1.size).mono ?_
  rintro e w2 ⟨rfl, v2, hp2, hk2, hf2⟩
  have hB2 : Below w.heap.size w w2 := hb1.trans (hp1.low hk2 (fun _ h => h) hb1.size)
  have hsep := hid (show ∀ k, (Value.slice (some ⟨w2.heap.size, 0, none⟩) 2 2).ownBlock = some k → ¬ penS w.heap.size v2 k from by
    intro k hk hs
    simp [Value.ownBlock] at hk
    subst hk
    rcases hs with h | h
    · have := hp2.lt; omega
    · have := (hp2.2.1.lt _ h).2; omega)
  go_wp2_with fail
  refine (pentext_good _ w.heap.size v2 ([] ++ Ink.num 300) _ [97, 98] _ (hp2.below ((Below.refl _ _).alloc (Nat.le_refl _) _)) (Rd.lit _ _ _ [97, 98] 2 rfl rfl (by decide)) hsep.out (by decide) (by decide) (by have := hB2.size; simp; omega)).mono ?_
  rintro e w3 ⟨rfl, v3, hp3, hk3, hf3⟩
  rw [seen_eq] at hp3
  have hB3 : Below w.heap.size w w3 := (hB2.alloc hB2.size _).trans ((hp2.below ((Below.refl _ _).alloc (Nat.le_refl _) _)).low hk3 (fun _ h => h) (by have := hB2.size; simp; omega))
  clear hk3 hf3 hp2 hk2 hf2 hp1 hb1 hB2
  go_wp2_with fail
  refine (read_any _ [128, 0] _ (Rd.lit w3 _ (0, 0) [128, 0] 2 rfl rfl (by decide)) (by decide)).mono ?_
  rintro e w4 ⟨b4, v4, rfl, he4, hb4⟩
  have hba : Below w3.heap.size w3 w4 := ((Below.refl _ _).alloc (Nat.le_refl _) _).trans (hb4.mono (by simp))
  have hp4 := hp3.below hba
  have hB4 : Below w.heap.size w w4 := hB3.trans (hba.mono hB3.size)
  have he4' := he4.base (b0 := w.heap.size) (by have := hB3.size; simp; omega)
  clear hp3 hb4 hba hB3 he4
  go_wp2_with fail
  refine (penbytes_any _ w.heap.size v3 seen false w4 hp4 (by decide)).mono ?_
  rintro e w5 ⟨v5, rfl, ho5, hb5⟩
  have hB5 : Below w.heap.size w w5 := hB4.trans (hb5.mono hB4.size)
  have he5 := he4'.below hb5
  clear he4' hp4
  go_wp2_with fail
  refine (same_eq v5 _ seen _ (ho5.rd.alloc _) (Rd.lit w5 _ (0, 0) seen 5 rfl rfl (by decide))).mono ?_
  rintro e w6 ⟨rfl, rfl⟩
  have he6 := he5.below ((Below.refl w5.heap.size w5).alloc (Nat.le_refl _) (.cells #[.int .u8 172, .int .u8 2, .int .u8 2, .int .u8 97, .int .u8 98] 5))
  go_wp2_with fail
  refine (eyenum_none w.heap.size b4 v4 [128, 0] _ he6 none_there).mono ?_
  rintro e w7 ⟨rfl, hf7, hk7⟩
  have hB7 : Below w.heap.size w w7 := (hB5.alloc hB5.size _).trans (he6.low hk7 (by have := hB5.size; simp; omega))
  clear he6 hk7 he5 hB5
  go_wp2_with fail
  refine (end_bad _ _ _ _ true w7 hf7 (.inl rfl)).mono ?_
  rintro e w8 ⟨rfl, rfl⟩
  go_wp2
  go_ret
  exact ⟨rfl, hB7⟩

end Go.Proofs.Ytoglhleljknhcaa
