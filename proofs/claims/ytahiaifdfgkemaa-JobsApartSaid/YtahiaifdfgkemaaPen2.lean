/-
  A pen's other calls: their contracts.
-/
import Derived.Test.YtahiaifdfgkemaaPen
import Derived.Test.YtahiaifdfgkemaaClone
namespace Go.Proofs.Ytahiaifdfgkemaa
open Go.RowKit

/-- What a call may leave of a pen: it has written m more. -/
def Wrote (w : World) (base b : Nat) (v : Value) (l m : List UInt8) (w' : World) : Prop :=
  ∃ v', PenAt w' base b v' (l ++ m) false ∧ Keeps (penS b v) w w' ∧ (∀ k, v'.ownBlock = some k → v.ownBlock = some k ∨ w.heap.size ≤ k)

theorem Rd.keeps {S : Nat → Prop} {w w' : World} {v : Value} {l : List UInt8} (h : Rd w v l) (hk : Keeps S w w') (hn : ∀ k, v.ownBlock = some k → ¬ S k) : Rd w' v l := by
  obtain ⟨a, cap, rfl, h1, h2, h3, h4⟩ := h
  refine ⟨a, cap, rfl, h1, h2, h3, fun x hx j hj => ?_⟩
  have h := h4 x hx j hj
  have hb := World.block_lt_of_cell? _ _ h
  have hxb : (x.add j).block = x.block := by unfold Addr.add; split <;> rfl
  rw [hk.cell hb (by rw [hxb]; exact hn _ (by rw [hx]; rfl))]
  exact h

theorem pennum_at (b base : Nat) (v : Value) (l : List UInt8) (n : Nat) (z : Int) (hz : z = (n : Int)) (hn : n < 18446744073709551616) (w : World) (h : PenAt w base b v l false) (hl : l.length ≤ 1000000) (hbase : base ≤ w.heap.size) :
    Calls Try.prog 27 #[.pointer (some ⟨b, 0, none⟩), .int .u64 z] w fun e w' => e = .returned (.tuple #[]) ∧ Wrote w base b v l (Ink.num n) w' := by
  subst hz
  exact pennum_good b base v l n hn w h hl hbase

set_option maxHeartbeats 400000 in
theorem pennum_bad (b base : Nat) (v : Value) (l : List UInt8) (n : Int) (w : World) (h : PenAt w base b v l true) :
    Calls Try.prog 27 #[.pointer (some ⟨b, 0, none⟩), .int .u64 n] w fun e w' => e = .returned (.tuple #[]) ∧ w = w' := by
  have hc1 := h.cell1
  go_enter Try.func27, Try.ntmps27
  go_wp2
  refine bodyPost_ret (results_none rfl _ _ _) rfl ?_
  exact ⟨rfl, rfl⟩

set_option maxHeartbeats 400000 in
theorem pennum_nil (n : Int) (w : World) :
    Calls Try.prog 27 #[.pointer none, .int .u64 n] w fun e w' => e = .returned (.tuple #[]) ∧ w = w' := by
  go_enter Try.func27, Try.ntmps27
  go_wp2
  refine bodyPost_ret (results_none rfl _ _ _) rfl ?_
  exact ⟨rfl, rfl⟩

set_option maxHeartbeats 400000 in
theorem penint_nil (n : Int) (w : World) :
    Calls Try.prog 28 #[.pointer none, .int .i64 n] w fun e w' => e = .returned (.tuple #[]) ∧ w = w' := by
  go_enter Try.func28, Try.ntmps28
  go_wp2
  refine bodyPost_ret (results_none rfl _ _ _) rfl ?_
  exact ⟨rfl, rfl⟩

set_option maxHeartbeats 400000 in
theorem penint_good (b base : Nat) (v : Value) (l : List UInt8) (n : Nat) (hn : n < 9223372036854775808) (w : World) (h : PenAt w base b v l false) (hl : l.length ≤ 1000000) (hbase : base ≤ w.heap.size) :
    Calls Try.prog 28 #[.pointer (some ⟨b, 0, none⟩), .int .i64 n] w fun e w' => e = .returned (.tuple #[]) ∧ Wrote w base b v l (Ink.num n) w' := by
  have HN := hid hn
  have hn0 : ¬ ((n : Int) < 0) := by omega
  clear hn
  go_enter Try.func28, Try.ntmps28
  go_wp2_with fail
  refine (pennum_at b base v l n _ (by have := HN.out; first | rfl | omega | (rw [IntKind.wrap_u64]; omega)) (by have := HN.out; omega) w h hl hbase).mono ?_
  rintro e w' ⟨rfl, hw⟩
  go_wp2
  go_end0
  exact ⟨rfl, hw⟩

set_option maxHeartbeats 400000 in
theorem penint_bad (b base : Nat) (v : Value) (l : List UInt8) (n : Nat) (hn : n < 9223372036854775808) (w : World) (h : PenAt w base b v l true) :
    Calls Try.prog 28 #[.pointer (some ⟨b, 0, none⟩), .int .i64 n] w fun e w' => e = .returned (.tuple #[]) ∧ w = w' := by
  have HN := hid hn
  have hn0 : ¬ ((n : Int) < 0) := by omega
  clear hn
  go_enter Try.func28, Try.ntmps28
  go_wp2_with fail
  refine (pennum_bad b base v l _ w h).mono ?_
  rintro e w' ⟨rfl, rfl⟩
  go_wp2
  go_end0
  exact ⟨rfl, rfl⟩

set_option maxHeartbeats 400000 in
theorem penint_neg (b base : Nat) (v : Value) (l : List UInt8) (bad : Bool) (n : Int) (hn : n < 0) (w : World) (h : PenAt w base b v l bad) :
    Calls Try.prog 28 #[.pointer (some ⟨b, 0, none⟩), .int .i64 n] w fun e w' => e = .returned (.tuple #[]) ∧ PenAt w' base b (.slice none 0 0) [] true ∧ Keeps (fun k => k = b) w w' := by
  have hc0 := h.cell0
  have hc1 := h.cell1
  have hf0 := h.frozen 0
  have hf1 := h.frozen 1
  have HP := hid h
  clear h
  go_enter Try.func28, Try.ntmps28
  go_wp2
  refine bodyPost_ret (results_none rfl _ _ _) rfl ?_
  refine ⟨rfl, ⟨?_, Own.nil _ _, by simp [Value.ownBlock], HP.out.2.2.2⟩, ?_⟩
  · simp only [World.setCell, Array.getElem?_modify, HP.out.1]
    simp
  · exact ((Keeps.refl (fun k => k = b) w).setCell (p := ⟨b, 1, none⟩) (fun _ => rfl) _).setCell (p := ⟨b, 0, none⟩) (fun _ => rfl) _

set_option maxHeartbeats 400000 in
theorem penbool_good (b base : Nat) (v : Value) (l : List UInt8) (x : Bool) (w : World) (h : PenAt w base b v l false) (hl : l.length ≤ 1000000) (hbase : base ≤ w.heap.size) :
    Calls Try.prog 38 #[.pointer (some ⟨b, 0, none⟩), .bool x] w fun e w' => e = .returned (.tuple #[]) ∧ Wrote w base b v l (Ink.num (if x then 1 else 0)) w' := by
  cases x
  · go_enter Try.func38, Try.ntmps38
    go_wp2_with fail
    refine (pennum_at b base v l 0 _ rfl (by omega) w h hl hbase).mono ?_
    rintro e w' ⟨rfl, hw⟩
    go_wp2
    go_end0
    exact ⟨rfl, hw⟩
  · go_enter Try.func38, Try.ntmps38
    go_wp2_with fail
    refine (pennum_at b base v l 1 _ rfl (by omega) w h hl hbase).mono ?_
    rintro e w' ⟨rfl, hw⟩
    go_wp2
    go_end0
    exact ⟨rfl, hw⟩

set_option maxHeartbeats 400000 in
theorem penbool_bad (b base : Nat) (v : Value) (l : List UInt8) (x : Bool) (w : World) (h : PenAt w base b v l true) :
    Calls Try.prog 38 #[.pointer (some ⟨b, 0, none⟩), .bool x] w fun e w' => e = .returned (.tuple #[]) ∧ w = w' := by
  cases x
  all_goals
    go_enter Try.func38, Try.ntmps38
    go_wp2_with fail
    refine (pennum_bad b base v l _ w h).mono ?_
    rintro e w' ⟨rfl, rfl⟩
    go_wp2
    go_end0
    exact ⟨rfl, rfl⟩

set_option maxHeartbeats 400000 in
theorem penbool_nil (x : Bool) (w : World) :
    Calls Try.prog 38 #[.pointer none, .bool x] w fun e w' => e = .returned (.tuple #[]) ∧ w = w' := by
  cases x
  all_goals
    go_enter Try.func38, Try.ntmps38
    go_wp2_with fail
    refine (pennum_nil _ w).mono ?_
    rintro e w' ⟨rfl, rfl⟩
    go_wp2
    go_end0
    exact ⟨rfl, rfl⟩

set_option maxHeartbeats 400000 in
theorem penbytes_any (b base : Nat) (v : Value) (l : List UInt8) (bad : Bool) (w : World) (h : PenAt w base b v l bad) (hl : l.length ≤ 1000000) :
    Calls Try.prog 32 #[.pointer (some ⟨b, 0, none⟩)] w fun e w' => ∃ v', e = .returned v' ∧ Own w' w.heap.size v' l ∧ Below w.heap.size w w' := by
  have hc0 := h.cell0
  go_enter Try.func32, Try.ntmps32
  go_wp2_with fail
  refine (clone_any v l w h.2.1.rd (by omega)).mono ?_
  rintro e w1 ⟨v1, rfl, ho, hb⟩
  go_wp2
  go_ret
  exact ⟨v1, rfl, ho, hb⟩

set_option maxHeartbeats 400000 in
theorem penbytes_nil (w : World) :
    Calls Try.prog 32 #[.pointer none] w fun e w' => e = .returned (.slice none 0 0) ∧ w = w' := by
  go_enter Try.func32, Try.ntmps32
  go_wp2
  go_ret
  exact ⟨rfl, rfl⟩

end Go.Proofs.Ytahiaifdfgkemaa
