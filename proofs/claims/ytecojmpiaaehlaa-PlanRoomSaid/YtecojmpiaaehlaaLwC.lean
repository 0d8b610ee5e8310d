/-
  An ask, a start that came in; worlds that came in stay.
-/
import Derived.Test.YtecojmpiaaehlaaLwB
namespace Go.Proofs.Ytecojmpiaaehlaa
open Go.RowKit Go.Shelf Go.ChangeShapes Go.WideShapes
set_option linter.unusedVariables false

def IsAsk (w : World) (v : Value) : Prop := ∃ k n : Int, v = .agg #[.int .i64 k, .int .i64 n]
def IsStart (w : World) (v : Value) : Prop := ∃ (a r : Int) (A : Option Addr) (L C : Nat) (ok : Bool) (zs : List Int), v = .agg #[.int .i64 a, .int .i64 r, .slice A L C, .bool ok] ∧ IsRow .i64 w A L C zs

set_option maxRecDepth 100000 in
set_option maxHeartbeats 1000000 in
theorem isAsk_of {H : Type} {enc : TypeId × Value → H} {w : World} {base b0 : Nat} {held : Bool} {r : Reach} {v : Value} {d : DataW H} {p : List MemPlace}
    (hv : Value.okWide Try.prog w r b0 24 v) (h : DataW.Trod enc Try.prog w base (fun _ => true) held 24 v d p) : IsAsk w v := by
  have hC : Try.prog.cellsOf 24 = 2 := by kernel_rfl
  have h_int : Try.prog.cellsOf 3 = 1 := by kernel_rfl
  obtain ⟨cs, rfl, hsz⟩ := okWide_struct Try.underlying24 hv
  rw [hC] at hsz
  obtain ⟨fuel, hf⟩ := h
  obtain ⟨xs, n', _, _, _, hxl, hfld⟩ := DataW.trod_struct Try.underlying24 hf
  obtain ⟨l⟩ := cs
  have f0 : DataW.trod enc Try.prog w base (fun _ => true) held n' 3 ((l.drop 0).take (Try.prog.cellsOf 3)) = xs[0]? := hfld 0 _ rfl
  have f1 : DataW.trod enc Try.prog w base (fun _ => true) held n' 3 ((l.drop 1).take (Try.prog.cellsOf 3)) = xs[1]? := hfld 1 _ rfl
  rw [h_int] at f0 f1
  match l, hsz with
  | [c0, c1], _ =>
    match xs, hxl with
    | [y0, y1], _ =>
      obtain ⟨d0, e0, _, wf0⟩ := DataW.trod_int Try.underlying3 (show _ = some y0 from f0)
      obtain ⟨d1, e1, _, wf1⟩ := DataW.trod_int Try.underlying3 (show _ = some y1 from f1)
      simp at e0 e1
      subst e0
      subst e1
      exact ⟨d0, d1, rfl⟩

set_option maxRecDepth 100000 in
set_option maxHeartbeats 1000000 in
theorem isStart_of {H : Type} {enc : TypeId × Value → H} {w : World} {base b0 : Nat} {held : Bool} {r : Reach} {v : Value} {d : DataW H} {p : List MemPlace}
    (hv : Value.okWide Try.prog w r b0 27 v) (h : DataW.Trod enc Try.prog w base (fun _ => true) held 27 v d p) : IsStart w v := by
  have hC : Try.prog.cellsOf 27 = 4 := by kernel_rfl
  have h_int : Try.prog.cellsOf 3 = 1 := by kernel_rfl
  have h_ints : Try.prog.cellsOf 25 = 1 := by kernel_rfl
  have h_bool : Try.prog.cellsOf 4 = 1 := by kernel_rfl
  obtain ⟨cs, rfl, hsz⟩ := okWide_struct Try.underlying27 hv
  rw [hC] at hsz
  obtain ⟨fuel, hf⟩ := h
  obtain ⟨xs, n', _, _, _, hxl, hfld⟩ := DataW.trod_struct Try.underlying27 hf
  obtain ⟨l⟩ := cs
  have f0 : DataW.trod enc Try.prog w base (fun _ => true) held n' 3 ((l.drop 0).take (Try.prog.cellsOf 3)) = xs[0]? := hfld 0 _ rfl
  have f1 : DataW.trod enc Try.prog w base (fun _ => true) held n' 3 ((l.drop 1).take (Try.prog.cellsOf 3)) = xs[1]? := hfld 1 _ rfl
  have f2 : DataW.trod enc Try.prog w base (fun _ => true) held n' 25 ((l.drop 2).take (Try.prog.cellsOf 25)) = xs[2]? := hfld 2 _ rfl
  have f3 : DataW.trod enc Try.prog w base (fun _ => true) held n' 4 ((l.drop 3).take (Try.prog.cellsOf 4)) = xs[3]? := hfld 3 _ rfl
  rw [h_int] at f0 f1
  rw [h_ints] at f2
  rw [h_bool] at f3
  match l, hsz with
  | [c0, c1, c2, c3], _ =>
    match xs, hxl with
    | [y0, y1, y2, y3], _ =>
      obtain ⟨d0, e0, _, wf0⟩ := DataW.trod_int Try.underlying3 (show _ = some y0 from f0)
      obtain ⟨d1, e1, _, wf1⟩ := DataW.trod_int Try.underlying3 (show _ = some y1 from f1)
      obtain ⟨d3, e3, _⟩ := DataW.trod_bool Try.underlying4 (show _ = some y3 from f3)
      simp at e0 e1 e3
      subst e0
      subst e1
      subst e3
      rcases open_ints Try.underlying25 Try.underlying3 h_int (show _ = some y2 from f2) with ⟨e2, _⟩ | ⟨x2, l2, cp2, zs, e2, _, hl2, hm2, hz2, _, hcell2, hwz2⟩
      · simp at e2
        subst e2
        exact ⟨d0, d1, none, 0, 0, _, [], rfl, .inl ⟨rfl, rfl, rfl, rfl⟩⟩
      · simp at e2
        subst e2
        exact ⟨d0, d1, some x2, l2, cp2, _, zs, rfl, .inr ⟨x2, rfl, hl2, hm2, by simpa using hz2, hcell2, hwz2⟩⟩

/-- A raw profile's rows, cut, as they are asked. -/
theorem raw_take {w : World} {a : Option Addr} {len cap : Nat} {ts : List (List Int)} (h : RawP w a len cap ts) : (ts.take 10).length ≤ 10 ∧ ∀ r ∈ ts.take 10, r.length ≤ 20 := by
  refine ⟨by rw [List.length_take]; omega, fun r hr => ?_⟩
  obtain ⟨i, hi⟩ := List.getElem?_of_mem (List.mem_of_mem_take hr)
  obtain ⟨_, _, _, L, _, _, _, _, _, _, h6, _⟩ := h.2.2.2 i r hi
  omega

end Go.Proofs.Ytecojmpiaaehlaa
