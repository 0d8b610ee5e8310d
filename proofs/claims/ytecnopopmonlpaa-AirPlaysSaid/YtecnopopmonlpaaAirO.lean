/-
  Layer 9: isFull, At, Oldest, Clear, find: contracts.
-/
import Derived.Test.YtecnopopmonlpaaAirN
namespace Go.Proofs.Ytecnopopmonlpaa
open Go.RowKit
set_option linter.unusedVariables false

theorem below_dr {B : Nat} {w w' : World} (h : Below B w w') : Below B w w'.drew := ⟨h.os, h.tape, h.output, h.size, h.block⟩

set_option maxHeartbeats 1000000 in
theorem full_any (base : B9) (b : Nat) (s : Ar) (w : World) (h : AirAt w base b s) (f : Bool) (hf : f = decide (s.room ≤ s.l.length)) :
    Calls Try.prog 23 #[.pointer (some ⟨b, 0, none⟩)] w fun e w' => e = .returned (.bool f) ∧ Below w.heap.size w w' := by
  obtain ⟨fv, PF, hh⟩ := h
  obtain ⟨c0, c1, c2, hfz⟩ := hh.cells
  obtain ⟨a, c, rfl, hc1, hc2⟩ := hh.shape
  have HE := hid (show decide (s.room ≤ s.l.length) = f from hf.symm)
  clear hfz hh hf
  go_enter Try.func23, Try.ntmps23
  go_wp2
  go_region
  all_goals go_wp2
  all_goals go_ret
  all_goals exact ⟨by rw [HE.out]; rfl, below_dr (Below.refl _ _)⟩

set_option maxHeartbeats 1000000 in
theorem at_yes (base : B9) (b k : Nat) (s : Ar) (x : Fl) (w : World) (h : AirAt w base b s) (hx : s.l[k]? = some x) :
    Calls Try.prog 22 #[.pointer (some ⟨b, 0, none⟩), .int .i64 (k : Int)] w fun e w' => e = .returned (.tuple #[.int .u64 (x.id : Int), .bool true]) ∧ w = w' := by
  have hk : k < s.l.length := (List.getElem?_eq_some_iff.1 hx).1
  have HA := hid h
  obtain ⟨fv, PF, hh⟩ := h
  obtain ⟨c0, c1, c2, hfz⟩ := hh.cells
  have hp : ∃ y, PF[k]? = some y ∧ y.1 = x := by
    rw [hh.list, List.getElem?_map] at hx
    cases hy : PF[k]? with
    | none => rw [hy] at hx; cases hx
    | some y => rw [hy] at hx; exact ⟨y, rfl, by simpa using hx⟩
  obtain ⟨y, hy, rfl⟩ := hp
  rcases owns_shape hh.row with ⟨e0, e1⟩ | ⟨g, cap, rfl, hg1, hg2, hc1, hc2⟩
  · rw [hh.len] at e1; omega
  · obtain ⟨f0, f1, f2⟩ := hh.fcell hy
    rw [hh.len] at c2 hc1
    clear hfz hh hx hy
    have k0 : ¬ (k : Int) < 0 := by omega
    have k1 : ¬ (s.l.length : Int) ≤ (k : Int) := by omega
    have k2 : (k : Int) < (s.l.length : Int) := by omega
    go_enter Try.func22, Try.ntmps22
    go_wp2_with (go_at_call 21; refine (airlen_any base b s w HA.out).mono ?_; rintro e w' ⟨rfl, rfl⟩)
    go_ret2
    exact ⟨rfl, rfl⟩

set_option maxHeartbeats 1000000 in
theorem at_no (base : B9) (b : Nat) (k : Int) (s : Ar) (w : World) (h : AirAt w base b s) (hk : k < 0 ∨ (s.l.length : Int) ≤ k) :
    Calls Try.prog 22 #[.pointer (some ⟨b, 0, none⟩), .int .i64 k] w fun e w' => e = .returned (.tuple #[.int .u64 0, .bool false]) ∧ w = w' := by
  by_cases k0 : k < 0
  · clear hk
    go_enter Try.func22, Try.ntmps22
    go_wp2
    go_ret2
    exact ⟨rfl, rfl⟩
  · have k1 : (s.l.length : Int) ≤ k := by omega
    clear hk
    go_enter Try.func22, Try.ntmps22
    go_wp2_with (go_at_call 21; refine (airlen_any base b s w h).mono ?_; rintro e w' ⟨rfl, rfl⟩)
    go_ret2
    exact ⟨rfl, rfl⟩

theorem at_nil (k : Int) (w : World) :
    Calls Try.prog 22 #[.pointer none, .int .i64 k] w fun e w' => e = .returned (.tuple #[.int .u64 0, .bool false]) ∧ w = w' := by
  by_cases k0 : k < 0
  · go_enter Try.func22, Try.ntmps22
    go_wp2
    go_ret2
    exact ⟨rfl, rfl⟩
  · have k1 : 0 ≤ k := by omega
    go_enter Try.func22, Try.ntmps22
    go_wp2_with (go_at_call 21; refine (airlen_nil w).mono ?_; rintro e w' ⟨rfl, rfl⟩)
    go_ret2
    exact ⟨rfl, rfl⟩

set_option maxHeartbeats 1000000 in
theorem oldest_yes (base : B9) (b : Nat) (s : Ar) (x : Fl) (w : World) (h : AirAt w base b s) (hx : s.l[0]? = some x) :
    Calls Try.prog 20 #[.pointer (some ⟨b, 0, none⟩)] w fun e w' => e = .returned (.tuple #[.int .u64 (x.id : Int), .bool true]) ∧ w = w' := by
  have HX := hid hx
  clear hx
  go_enter Try.func20, Try.ntmps20
  go_wp2_with (go_at_call 22; refine (at_yes base b 0 s x w h HX.out).mono ?_; rintro e w' ⟨rfl, rfl⟩)
  go_ret2
  exact ⟨rfl, rfl⟩

set_option maxHeartbeats 1000000 in
theorem oldest_no (base : B9) (b : Nat) (s : Ar) (w : World) (h : AirAt w base b s) (hx : s.l.length = 0) :
    Calls Try.prog 20 #[.pointer (some ⟨b, 0, none⟩)] w fun e w' => e = .returned (.tuple #[.int .u64 0, .bool false]) ∧ w = w' := by
  have HX := hid (show (s.l.length : Int) ≤ 0 by omega)
  clear hx
  go_enter Try.func20, Try.ntmps20
  go_wp2_with (go_at_call 22; refine (at_no base b 0 s w h (.inr HX.out)).mono ?_; rintro e w' ⟨rfl, rfl⟩)
  go_ret2
  exact ⟨rfl, rfl⟩

theorem oldest_nil (w : World) :
    Calls Try.prog 20 #[.pointer none] w fun e w' => e = .returned (.tuple #[.int .u64 0, .bool false]) ∧ w = w' := by
  go_enter Try.func20, Try.ntmps20
  go_wp2_with (go_at_call 22; refine (at_nil 0 w).mono ?_; rintro e w' ⟨rfl, rfl⟩)
  go_ret2
  exact ⟨rfl, rfl⟩

theorem kset (w : World) (b j : Nat) (V : Value) : Keeps (fun k => k = b) w (w.setCell ⟨b, j, none⟩ V) := (Keeps.refl (fun k => k = b) w).setCell (p := ⟨b, j, none⟩) (fun _ => rfl) _

/-- The head is written anew, with another row of the same kind. -/
theorem ArV.anew {S : Nat → Prop} {w w' : World} {base : B9} {b : Nat} {TA TF : TypeId} {s s' : Ar} {fv fv' : Value} {PF PF' : List (Fl × Value)} (h : ArV w base b TA TF s fv PF)
    (hb : w'.heap[b]? = some (.cells #[.int .i64 (s'.room : Int), .int .u64 (s'.last : Int), fv'] TA (0, 0))) (hr : w'.ownsRow base.n TF 3 fv' PF'.length (PF'.flatMap fcells)) (hl : s'.l = PF'.map (·.1)) (ho : ∀ x ∈ PF', Own w' base.n x.2 x.1.t) (hok : s'.ok) (hfar : ∀ x ∈ PF', ∀ k, x.2.ownBlock = some k → base.P k) : ArV w' base b TA TF s' fv' PF' :=
  ⟨hb, hr, hl, ho, h.low, hok, hfar⟩

set_option maxHeartbeats 1000000 in
theorem clear_any (base : B9) (b : Nat) (s : Ar) (w : World) (h : AirAt w base b s) (hb : base.n ≤ w.heap.size) :
    Calls Try.prog 19 #[.pointer (some ⟨b, 0, none⟩)] w fun e w' => e = .returned (.tuple #[]) ∧ AirAt w' base b { s with l := [] } ∧ KT airTs base.n w w' := by
  obtain ⟨fv, PF, hh⟩ := h
  obtain ⟨c0, c1, c2, hfz⟩ := hh.cells
  have z2 := hfz 2
  have H := hid hh
  clear hfz hh
  go_enter Try.func19, Try.ntmps19
  go_wp2
  go_end0
  refine ⟨rfl, ⟨.slice none 0 0, [], ?_⟩, ?_⟩
  · obtain ⟨o1, o2, o3, o4, o5⟩ := H.out.ok
    exact H.out.anew (S := fun _ => True) (by rw [heap_setCell_same _ _ _ _ _ _ H.out.head]; simp) (World.ownsRow_nil _ _ _ _) rfl (fun x hx => by cases hx) ⟨List.Pairwise.nil, (fun f hf => by cases hf), o3, Nat.zero_le _, (fun f hf => by cases hf)⟩ (fun x hx => by cases hx)
  · exact H.out.ktS (kset _ _ _ _) (fun k _ e => .inl e) hb

theorem clear_nil (w : World) :
    Calls Try.prog 19 #[.pointer none] w fun e w' => e = .returned (.tuple #[]) ∧ w = w' := by
  go_enter Try.func19, Try.ntmps19
  go_wp2
  go_end0
  exact ⟨rfl, rfl⟩

end Go.Proofs.Ytecnopopmonlpaa
