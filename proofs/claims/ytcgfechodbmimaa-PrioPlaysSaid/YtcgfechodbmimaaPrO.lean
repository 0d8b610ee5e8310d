/-
  An item that came in.
-/
import Derived.Test.YtcgfechodbmimaaPrZ
import Derived.Test.YtcgfechodbmimaaPrR
namespace Go.Proofs.Ytcgfechodbmimaa
open Go.RowKit Go.ChangeShapes Go.WideShapes
set_option linter.unusedVariables false

def IsItem (w : World) (v : Value) : Prop := ∃ x : It, v = itv x ∧ kw x.1

set_option maxRecDepth 100000 in
set_option maxHeartbeats 1000000 in
theorem isItem_of {H : Type} {enc : TypeId × Value → H} {w : World} {base b0 : Nat} {held : Bool} {r : Reach} {v : Value} {d : DataW H} {p : List MemPlace}
    (hv : Value.okWide Try.prog w r b0 29 v) (h : DataW.Trod enc Try.prog w base (fun _ => true) held 29 v d p) : IsItem w v := by
  have hC : Try.prog.cellsOf 29 = 3 := by kernel_rfl
  have h_u32 : Try.prog.cellsOf 27 = 1 := by kernel_rfl
  have h_u8 : Try.prog.cellsOf 5 = 1 := by kernel_rfl
  obtain ⟨cs, rfl, hsz⟩ := okWide_struct Try.underlying29 hv
  rw [hC] at hsz
  obtain ⟨fuel, hf⟩ := h
  obtain ⟨xs, n', _, _, _, hxl, hfld⟩ := DataW.trod_struct Try.underlying29 hf
  obtain ⟨l⟩ := cs
  have f0 : DataW.trod enc Try.prog w base (fun _ => true) held n' 27 ((l.drop 0).take (Try.prog.cellsOf 27)) = xs[0]? := hfld 0 _ rfl
  have f1 : DataW.trod enc Try.prog w base (fun _ => true) held n' 5 ((l.drop 1).take (Try.prog.cellsOf 5)) = xs[1]? := hfld 1 _ rfl
  have f2 : DataW.trod enc Try.prog w base (fun _ => true) held n' 27 ((l.drop 2).take (Try.prog.cellsOf 27)) = xs[2]? := hfld 2 _ rfl
  rw [h_u32] at f0 f2
  rw [h_u8] at f1
  match l, hsz with
  | [c0, c1, c2], _ =>
    match xs, hxl with
    | [y0, y1, y2], _ =>
      obtain ⟨d0, e0, _, wf0⟩ := DataW.trod_int Try.underlying27 (show _ = some y0 from f0)
      obtain ⟨d1, e1, _, wf1⟩ := DataW.trod_int Try.underlying5 (show _ = some y1 from f1)
      obtain ⟨d2, e2, _, wf2⟩ := DataW.trod_int Try.underlying27 (show _ = some y2 from f2)
      simp at e0 e1 e2
      subst e0
      subst e1
      subst e2
      exact ⟨(d0, d1, d2), rfl, wf0⟩

end Go.Proofs.Ytcgfechodbmimaa
