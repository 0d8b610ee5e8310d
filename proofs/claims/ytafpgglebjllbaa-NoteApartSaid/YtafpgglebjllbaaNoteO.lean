/-
  What comes in, opened: requests, replies, notes, packets.
-/
import Derived.Test.YtafpgglebjllbaaNoteD
import Derived.Test.YtafpgglebjllbaaKit
import Derived.Deep.Slices
import Derived.ChangeSlices
import Derived.OpenShut
namespace Go.Proofs.Ytafpgglebjllbaa
open Go.RowKit Go.ChangeShapes Go.WideShapes Go.Deep

def IsNote (w : World) (v : Value) : Prop := ∃ (x : Note.N) (A : Option Addr) (L C : Nat) (zs : List Int), v = .agg #[.int .u8 (x.k : Int), .int .u8 (x.n : Int), .int .u32 (x.e : Int), .int .u32 (x.l : Int), .int .u32 (x.t : Int), .int .u32 (x.g : Int), .int .u32 (x.j : Int), .int .u32 (x.v : Int), .int .u8 (x.r : Int), .int .i64 x.c, .int .u32 (x.f : Int), .int .u32 (x.o : Int), .slice A L C] ∧ x.wf ∧ IsRow .u8 w A L C zs

set_option maxRecDepth 100000 in
set_option maxHeartbeats 1000000 in
theorem isNote_of {H : Type} {enc : TypeId × Value → H} {w : World} {base b0 : Nat} {held : Bool} {r : Reach} {v : Value} {d : DataW H} {p : List MemPlace}
    (hv : Value.okWide Try.prog w r b0 25 v) (h : DataW.Trod enc Try.prog w base (fun _ => true) held 25 v d p) : IsNote w v := by
  have hC : Try.prog.cellsOf 25 = 13 := by kernel_rfl
  have h_s_uint8 : Try.prog.cellsOf 23 = 1 := by kernel_rfl
  have h_int : Try.prog.cellsOf 3 = 1 := by kernel_rfl
  have h_uint32 : Try.prog.cellsOf 22 = 1 := by kernel_rfl
  have h_uint8 : Try.prog.cellsOf 5 = 1 := by kernel_rfl
  obtain ⟨cs, rfl, hsz⟩ := okWide_struct Try.underlying25 hv
  rw [hC] at hsz
  obtain ⟨fuel, hf⟩ := h
  obtain ⟨xs, n', _, _, _, hxl, hfld⟩ := DataW.trod_struct Try.underlying25 hf
  obtain ⟨l⟩ := cs
  have f0 : DataW.trod enc Try.prog w base (fun _ => true) held n' 5 ((l.drop 0).take (Try.prog.cellsOf 5)) = xs[0]? := hfld 0 _ rfl
  rw [h_uint8] at f0
  have f1 : DataW.trod enc Try.prog w base (fun _ => true) held n' 5 ((l.drop 1).take (Try.prog.cellsOf 5)) = xs[1]? := hfld 1 _ rfl
  rw [h_uint8] at f1
  have f2 : DataW.trod enc Try.prog w base (fun _ => true) held n' 22 ((l.drop 2).take (Try.prog.cellsOf 22)) = xs[2]? := hfld 2 _ rfl
  rw [h_uint32] at f2
  have f3 : DataW.trod enc Try.prog w base (fun _ => true) held n' 22 ((l.drop 3).take (Try.prog.cellsOf 22)) = xs[3]? := hfld 3 _ rfl
  rw [h_uint32] at f3
  have f4 : DataW.trod enc Try.prog w base (fun _ => true) held n' 22 ((l.drop 4).take (Try.prog.cellsOf 22)) = xs[4]? := hfld 4 _ rfl
  rw [h_uint32] at f4
  have f5 : DataW.trod enc Try.prog w base (fun _ => true) held n' 22 ((l.drop 5).take (Try.prog.cellsOf 22)) = xs[5]? := hfld 5 _ rfl
  rw [h_uint32] at f5
  have f6 : DataW.trod enc Try.prog w base (fun _ => true) held n' 22 ((l.drop 6).take (Try.prog.cellsOf 22)) = xs[6]? := hfld 6 _ rfl
  rw [h_uint32] at f6
  have f7 : DataW.trod enc Try.prog w base (fun _ => true) held n' 22 ((l.drop 7).take (Try.prog.cellsOf 22)) = xs[7]? := hfld 7 _ rfl
  rw [h_uint32] at f7
  have f8 : DataW.trod enc Try.prog w base (fun _ => true) held n' 5 ((l.drop 8).take (Try.prog.cellsOf 5)) = xs[8]? := hfld 8 _ rfl
  rw [h_uint8] at f8
  have f9 : DataW.trod enc Try.prog w base (fun _ => true) held n' 3 ((l.drop 9).take (Try.prog.cellsOf 3)) = xs[9]? := hfld 9 _ rfl
  rw [h_int] at f9
  have f10 : DataW.trod enc Try.prog w base (fun _ => true) held n' 22 ((l.drop 10).take (Try.prog.cellsOf 22)) = xs[10]? := hfld 10 _ rfl
  rw [h_uint32] at f10
  have f11 : DataW.trod enc Try.prog w base (fun _ => true) held n' 22 ((l.drop 11).take (Try.prog.cellsOf 22)) = xs[11]? := hfld 11 _ rfl
  rw [h_uint32] at f11
  have f12 : DataW.trod enc Try.prog w base (fun _ => true) held n' 23 ((l.drop 12).take (Try.prog.cellsOf 23)) = xs[12]? := hfld 12 _ rfl
  rw [h_s_uint8] at f12
  match l, hsz with
  | [c0, c1, c2, c3, c4, c5, c6, c7, c8, c9, c10, c11, c12], _ =>
    match xs, hxl with
    | [y0, y1, y2, y3, y4, y5, y6, y7, y8, y9, y10, y11, y12], _ =>
      obtain ⟨d0, e0, _, wf0⟩ := DataW.trod_int Try.underlying5 (show _ = some y0 from f0)
      simp at e0
      subst e0
      have b0 := bounds_u8 wf0
      obtain ⟨n0, rfl⟩ := Int.eq_ofNat_of_zero_le (show 0 ≤ d0 by omega)
      obtain ⟨d1, e1, _, wf1⟩ := DataW.trod_int Try.underlying5 (show _ = some y1 from f1)
      simp at e1
      subst e1
      have b1 := bounds_u8 wf1
      obtain ⟨n1, rfl⟩ := Int.eq_ofNat_of_zero_le (show 0 ≤ d1 by omega)
      obtain ⟨d2, e2, _, wf2⟩ := DataW.trod_int Try.underlying22 (show _ = some y2 from f2)
      simp at e2
      subst e2
      have b2 := bounds_u32 wf2
      obtain ⟨n2, rfl⟩ := Int.eq_ofNat_of_zero_le (show 0 ≤ d2 by omega)
      obtain ⟨d3, e3, _, wf3⟩ := DataW.trod_int Try.underlying22 (show _ = some y3 from f3)
      simp at e3
      subst e3
      have b3 := bounds_u32 wf3
      obtain ⟨n3, rfl⟩ := Int.eq_ofNat_of_zero_le (show 0 ≤ d3 by omega)
      obtain ⟨d4, e4, _, wf4⟩ := DataW.trod_int Try.underlying22 (show _ = some y4 from f4)
      simp at e4
      subst e4
      have b4 := bounds_u32 wf4
      obtain ⟨n4, rfl⟩ := Int.eq_ofNat_of_zero_le (show 0 ≤ d4 by omega)
      obtain ⟨d5, e5, _, wf5⟩ := DataW.trod_int Try.underlying22 (show _ = some y5 from f5)
      simp at e5
      subst e5
      have b5 := bounds_u32 wf5
      obtain ⟨n5, rfl⟩ := Int.eq_ofNat_of_zero_le (show 0 ≤ d5 by omega)
      obtain ⟨d6, e6, _, wf6⟩ := DataW.trod_int Try.underlying22 (show _ = some y6 from f6)
      simp at e6
      subst e6
      have b6 := bounds_u32 wf6
      obtain ⟨n6, rfl⟩ := Int.eq_ofNat_of_zero_le (show 0 ≤ d6 by omega)
      obtain ⟨d7, e7, _, wf7⟩ := DataW.trod_int Try.underlying22 (show _ = some y7 from f7)
      simp at e7
      subst e7
      have b7 := bounds_u32 wf7
      obtain ⟨n7, rfl⟩ := Int.eq_ofNat_of_zero_le (show 0 ≤ d7 by omega)
      obtain ⟨d8, e8, _, wf8⟩ := DataW.trod_int Try.underlying5 (show _ = some y8 from f8)
      simp at e8
      subst e8
      have b8 := bounds_u8 wf8
      obtain ⟨n8, rfl⟩ := Int.eq_ofNat_of_zero_le (show 0 ≤ d8 by omega)
      obtain ⟨d9, e9, _, wf9⟩ := DataW.trod_int Try.underlying3 (show _ = some y9 from f9)
      simp at e9
      subst e9
      have b9 := bounds_i64 wf9
      obtain ⟨d10, e10, _, wf10⟩ := DataW.trod_int Try.underlying22 (show _ = some y10 from f10)
      simp at e10
      subst e10
      have b10 := bounds_u32 wf10
      obtain ⟨n10, rfl⟩ := Int.eq_ofNat_of_zero_le (show 0 ≤ d10 by omega)
      obtain ⟨d11, e11, _, wf11⟩ := DataW.trod_int Try.underlying22 (show _ = some y11 from f11)
      simp at e11
      subst e11
      have b11 := bounds_u32 wf11
      obtain ⟨n11, rfl⟩ := Int.eq_ofNat_of_zero_le (show 0 ≤ d11 by omega)
      rcases open_ints Try.underlying23 Try.underlying5 h_uint8 (show _ = some y12 from f12) with ⟨e2, _⟩ | ⟨x2, l2, cp2, zs, e2, _, hl2, hm2, hz2, _, hcell2, hwz2⟩
      · simp at e2
        subst e2
        exact ⟨⟨n0, n1, n2, n3, n4, n5, n6, n7, n8, d9, n10, n11, []⟩, none, 0, 0, [], rfl, ⟨by simp only; omega, by simp only; omega, by simp only; omega, by simp only; omega, by simp only; omega, by simp only; omega, by simp only; omega, by simp only; omega, by simp only; omega, by simp only; omega, by simp only; omega, by simp only; omega, by simp only; omega⟩, .inl ⟨rfl, rfl, rfl, rfl⟩⟩
      · simp at e2
        subst e2
        exact ⟨⟨n0, n1, n2, n3, n4, n5, n6, n7, n8, d9, n10, n11, []⟩, some x2, l2, cp2, zs, rfl, ⟨by simp only; omega, by simp only; omega, by simp only; omega, by simp only; omega, by simp only; omega, by simp only; omega, by simp only; omega, by simp only; omega, by simp only; omega, by simp only; omega, by simp only; omega, by simp only; omega, by simp only; omega⟩, .inr ⟨x2, rfl, hl2, hm2, by simpa using hz2, hcell2, hwz2⟩⟩

def IsRequest (w : World) (v : Value) : Prop := ∃ x : Note.Q, v = .agg #[.int .u8 (x.cl : Int), .int .u32 (x.s : Int), .int .u8 (x.k : Int), .int .u8 (x.t : Int), .int .i64 x.kk, .int .i64 x.w, .int .u32 (x.j : Int)] ∧ x.wf ∧ w = w

set_option maxRecDepth 100000 in
set_option maxHeartbeats 1000000 in
theorem isRequest_of {H : Type} {enc : TypeId × Value → H} {w : World} {base b0 : Nat} {spare : Nat → Bool} {held : Bool} {r : Reach} {v : Value} {d : DataW H} {p : List MemPlace}
    (hv : Value.okWide Try.prog w r b0 48 v) (h : DataW.Trod enc Try.prog w base spare held 48 v d p) : IsRequest w v := by
  have hC : Try.prog.cellsOf 48 = 7 := by kernel_rfl
  have h_int : Try.prog.cellsOf 3 = 1 := by kernel_rfl
  have h_uint32 : Try.prog.cellsOf 22 = 1 := by kernel_rfl
  have h_uint8 : Try.prog.cellsOf 5 = 1 := by kernel_rfl
  obtain ⟨cs, rfl, hsz⟩ := okWide_struct Try.underlying48 hv
  rw [hC] at hsz
  obtain ⟨fuel, hf⟩ := h
  obtain ⟨xs, n', _, _, _, hxl, hfld⟩ := DataW.trod_struct Try.underlying48 hf
  obtain ⟨l⟩ := cs
  have f0 : DataW.trod enc Try.prog w base spare held n' 5 ((l.drop 0).take (Try.prog.cellsOf 5)) = xs[0]? := hfld 0 _ rfl
  rw [h_uint8] at f0
  have f1 : DataW.trod enc Try.prog w base spare held n' 22 ((l.drop 1).take (Try.prog.cellsOf 22)) = xs[1]? := hfld 1 _ rfl
  rw [h_uint32] at f1
  have f2 : DataW.trod enc Try.prog w base spare held n' 5 ((l.drop 2).take (Try.prog.cellsOf 5)) = xs[2]? := hfld 2 _ rfl
  rw [h_uint8] at f2
  have f3 : DataW.trod enc Try.prog w base spare held n' 5 ((l.drop 3).take (Try.prog.cellsOf 5)) = xs[3]? := hfld 3 _ rfl
  rw [h_uint8] at f3
  have f4 : DataW.trod enc Try.prog w base spare held n' 3 ((l.drop 4).take (Try.prog.cellsOf 3)) = xs[4]? := hfld 4 _ rfl
  rw [h_int] at f4
  have f5 : DataW.trod enc Try.prog w base spare held n' 3 ((l.drop 5).take (Try.prog.cellsOf 3)) = xs[5]? := hfld 5 _ rfl
  rw [h_int] at f5
  have f6 : DataW.trod enc Try.prog w base spare held n' 22 ((l.drop 6).take (Try.prog.cellsOf 22)) = xs[6]? := hfld 6 _ rfl
  rw [h_uint32] at f6
  match l, hsz with
  | [c0, c1, c2, c3, c4, c5, c6], _ =>
    match xs, hxl with
    | [y0, y1, y2, y3, y4, y5, y6], _ =>
      obtain ⟨d0, e0, _, wf0⟩ := DataW.trod_int Try.underlying5 (show _ = some y0 from f0)
      simp at e0
      subst e0
      have b0 := bounds_u8 wf0
      obtain ⟨n0, rfl⟩ := Int.eq_ofNat_of_zero_le (show 0 ≤ d0 by omega)
      obtain ⟨d1, e1, _, wf1⟩ := DataW.trod_int Try.underlying22 (show _ = some y1 from f1)
      simp at e1
      subst e1
      have b1 := bounds_u32 wf1
      obtain ⟨n1, rfl⟩ := Int.eq_ofNat_of_zero_le (show 0 ≤ d1 by omega)
      obtain ⟨d2, e2, _, wf2⟩ := DataW.trod_int Try.underlying5 (show _ = some y2 from f2)
      simp at e2
      subst e2
      have b2 := bounds_u8 wf2
      obtain ⟨n2, rfl⟩ := Int.eq_ofNat_of_zero_le (show 0 ≤ d2 by omega)
      obtain ⟨d3, e3, _, wf3⟩ := DataW.trod_int Try.underlying5 (show _ = some y3 from f3)
      simp at e3
      subst e3
      have b3 := bounds_u8 wf3
      obtain ⟨n3, rfl⟩ := Int.eq_ofNat_of_zero_le (show 0 ≤ d3 by omega)
      obtain ⟨d4, e4, _, wf4⟩ := DataW.trod_int Try.underlying3 (show _ = some y4 from f4)
      simp at e4
      subst e4
      have b4 := bounds_i64 wf4
      obtain ⟨d5, e5, _, wf5⟩ := DataW.trod_int Try.underlying3 (show _ = some y5 from f5)
      simp at e5
      subst e5
      have b5 := bounds_i64 wf5
      obtain ⟨d6, e6, _, wf6⟩ := DataW.trod_int Try.underlying22 (show _ = some y6 from f6)
      simp at e6
      subst e6
      have b6 := bounds_u32 wf6
      obtain ⟨n6, rfl⟩ := Int.eq_ofNat_of_zero_le (show 0 ≤ d6 by omega)
      exact ⟨⟨n0, n1, n2, n3, d4, d5, n6⟩, rfl, ⟨by simp only; omega, by simp only; omega, by simp only; omega, by simp only; omega, by simp only; omega, by simp only; omega, by simp only; omega, by simp only; omega, by simp only; omega⟩, rfl⟩

def IsReply (w : World) (v : Value) : Prop := ∃ x : Note.R, v = .agg #[.int .u8 (x.cl : Int), .int .u32 (x.s : Int), .int .i64 x.e, .int .u32 (x.j : Int), .int .u8 (x.st : Int), .int .i64 x.c] ∧ x.wf ∧ w = w

set_option maxRecDepth 100000 in
set_option maxHeartbeats 1000000 in
theorem isReply_of {H : Type} {enc : TypeId × Value → H} {w : World} {base b0 : Nat} {spare : Nat → Bool} {held : Bool} {r : Reach} {v : Value} {d : DataW H} {p : List MemPlace}
    (hv : Value.okWide Try.prog w r b0 54 v) (h : DataW.Trod enc Try.prog w base spare held 54 v d p) : IsReply w v := by
  have hC : Try.prog.cellsOf 54 = 6 := by kernel_rfl
  have h_int : Try.prog.cellsOf 3 = 1 := by kernel_rfl
  have h_quadrille_api_Errno : Try.prog.cellsOf 27 = 1 := by kernel_rfl
  have h_uint32 : Try.prog.cellsOf 22 = 1 := by kernel_rfl
  have h_uint8 : Try.prog.cellsOf 5 = 1 := by kernel_rfl
  obtain ⟨cs, rfl, hsz⟩ := okWide_struct Try.underlying54 hv
  rw [hC] at hsz
  obtain ⟨fuel, hf⟩ := h
  obtain ⟨xs, n', _, _, _, hxl, hfld⟩ := DataW.trod_struct Try.underlying54 hf
  obtain ⟨l⟩ := cs
  have f0 : DataW.trod enc Try.prog w base spare held n' 5 ((l.drop 0).take (Try.prog.cellsOf 5)) = xs[0]? := hfld 0 _ rfl
  rw [h_uint8] at f0
  have f1 : DataW.trod enc Try.prog w base spare held n' 22 ((l.drop 1).take (Try.prog.cellsOf 22)) = xs[1]? := hfld 1 _ rfl
  rw [h_uint32] at f1
  have f2 : DataW.trod enc Try.prog w base spare held n' 27 ((l.drop 2).take (Try.prog.cellsOf 27)) = xs[2]? := hfld 2 _ rfl
  rw [h_quadrille_api_Errno] at f2
  have f3 : DataW.trod enc Try.prog w base spare held n' 22 ((l.drop 3).take (Try.prog.cellsOf 22)) = xs[3]? := hfld 3 _ rfl
  rw [h_uint32] at f3
  have f4 : DataW.trod enc Try.prog w base spare held n' 5 ((l.drop 4).take (Try.prog.cellsOf 5)) = xs[4]? := hfld 4 _ rfl
  rw [h_uint8] at f4
  have f5 : DataW.trod enc Try.prog w base spare held n' 3 ((l.drop 5).take (Try.prog.cellsOf 3)) = xs[5]? := hfld 5 _ rfl
  rw [h_int] at f5
  match l, hsz with
  | [c0, c1, c2, c3, c4, c5], _ =>
    match xs, hxl with
    | [y0, y1, y2, y3, y4, y5], _ =>
      obtain ⟨d0, e0, _, wf0⟩ := DataW.trod_int Try.underlying5 (show _ = some y0 from f0)
      simp at e0
      subst e0
      have b0 := bounds_u8 wf0
      obtain ⟨n0, rfl⟩ := Int.eq_ofNat_of_zero_le (show 0 ≤ d0 by omega)
      obtain ⟨d1, e1, _, wf1⟩ := DataW.trod_int Try.underlying22 (show _ = some y1 from f1)
      simp at e1
      subst e1
      have b1 := bounds_u32 wf1
      obtain ⟨n1, rfl⟩ := Int.eq_ofNat_of_zero_le (show 0 ≤ d1 by omega)
      obtain ⟨d2, e2, _, wf2⟩ := DataW.trod_int Try.underlying27 (show _ = some y2 from f2)
      simp at e2
      subst e2
      have b2 := bounds_i64 wf2
      obtain ⟨d3, e3, _, wf3⟩ := DataW.trod_int Try.underlying22 (show _ = some y3 from f3)
      simp at e3
      subst e3
      have b3 := bounds_u32 wf3
      obtain ⟨n3, rfl⟩ := Int.eq_ofNat_of_zero_le (show 0 ≤ d3 by omega)
      obtain ⟨d4, e4, _, wf4⟩ := DataW.trod_int Try.underlying5 (show _ = some y4 from f4)
      simp at e4
      subst e4
      have b4 := bounds_u8 wf4
      obtain ⟨n4, rfl⟩ := Int.eq_ofNat_of_zero_le (show 0 ≤ d4 by omega)
      obtain ⟨d5, e5, _, wf5⟩ := DataW.trod_int Try.underlying3 (show _ = some y5 from f5)
      simp at e5
      subst e5
      have b5 := bounds_i64 wf5
      exact ⟨⟨n0, n1, d2, n3, n4, d5⟩, rfl, ⟨by simp only; omega, by simp only; omega, by simp only; omega, by simp only; omega, by simp only; omega, by simp only; omega, by simp only; omega, by simp only; omega⟩, rfl⟩

def IsPacket (w : World) (v : Value) : Prop := ∃ (x : Note.P) (A : Option Addr) (L C : Nat) (zs : List Int), v = .agg #[.int .u8 (x.n : Int), .int .u32 (x.e : Int), .int .u32 (x.l : Int), .int .u32 (x.s : Int), .int .u32 (x.a : Int), .bool x.p, .slice A L C] ∧ x.wf ∧ IsRow .u8 w A L C zs

set_option maxRecDepth 100000 in
set_option maxHeartbeats 1000000 in
theorem isPacket_of {H : Type} {enc : TypeId × Value → H} {w : World} {base b0 : Nat} {held : Bool} {r : Reach} {v : Value} {d : DataW H} {p : List MemPlace}
    (hv : Value.okWide Try.prog w r b0 38 v) (h : DataW.Trod enc Try.prog w base (fun _ => true) held 38 v d p) : IsPacket w v := by
  have hC : Try.prog.cellsOf 38 = 7 := by kernel_rfl
  have h_s_uint8 : Try.prog.cellsOf 23 = 1 := by kernel_rfl
  have h_bool : Try.prog.cellsOf 4 = 1 := by kernel_rfl
  have h_uint32 : Try.prog.cellsOf 22 = 1 := by kernel_rfl
  have h_uint8 : Try.prog.cellsOf 5 = 1 := by kernel_rfl
  obtain ⟨cs, rfl, hsz⟩ := okWide_struct Try.underlying38 hv
  rw [hC] at hsz
  obtain ⟨fuel, hf⟩ := h
  obtain ⟨xs, n', _, _, _, hxl, hfld⟩ := DataW.trod_struct Try.underlying38 hf
  obtain ⟨l⟩ := cs
  have f0 : DataW.trod enc Try.prog w base (fun _ => true) held n' 5 ((l.drop 0).take (Try.prog.cellsOf 5)) = xs[0]? := hfld 0 _ rfl
  rw [h_uint8] at f0
  have f1 : DataW.trod enc Try.prog w base (fun _ => true) held n' 22 ((l.drop 1).take (Try.prog.cellsOf 22)) = xs[1]? := hfld 1 _ rfl
  rw [h_uint32] at f1
  have f2 : DataW.trod enc Try.prog w base (fun _ => true) held n' 22 ((l.drop 2).take (Try.prog.cellsOf 22)) = xs[2]? := hfld 2 _ rfl
  rw [h_uint32] at f2
  have f3 : DataW.trod enc Try.prog w base (fun _ => true) held n' 22 ((l.drop 3).take (Try.prog.cellsOf 22)) = xs[3]? := hfld 3 _ rfl
  rw [h_uint32] at f3
  have f4 : DataW.trod enc Try.prog w base (fun _ => true) held n' 22 ((l.drop 4).take (Try.prog.cellsOf 22)) = xs[4]? := hfld 4 _ rfl
  rw [h_uint32] at f4
  have f5 : DataW.trod enc Try.prog w base (fun _ => true) held n' 4 ((l.drop 5).take (Try.prog.cellsOf 4)) = xs[5]? := hfld 5 _ rfl
  rw [h_bool] at f5
  have f6 : DataW.trod enc Try.prog w base (fun _ => true) held n' 23 ((l.drop 6).take (Try.prog.cellsOf 23)) = xs[6]? := hfld 6 _ rfl
  rw [h_s_uint8] at f6
  match l, hsz with
  | [c0, c1, c2, c3, c4, c5, c6], _ =>
    match xs, hxl with
    | [y0, y1, y2, y3, y4, y5, y6], _ =>
      obtain ⟨d0, e0, _, wf0⟩ := DataW.trod_int Try.underlying5 (show _ = some y0 from f0)
      simp at e0
      subst e0
      have b0 := bounds_u8 wf0
      obtain ⟨n0, rfl⟩ := Int.eq_ofNat_of_zero_le (show 0 ≤ d0 by omega)
      obtain ⟨d1, e1, _, wf1⟩ := DataW.trod_int Try.underlying22 (show _ = some y1 from f1)
      simp at e1
      subst e1
      have b1 := bounds_u32 wf1
      obtain ⟨n1, rfl⟩ := Int.eq_ofNat_of_zero_le (show 0 ≤ d1 by omega)
      obtain ⟨d2, e2, _, wf2⟩ := DataW.trod_int Try.underlying22 (show _ = some y2 from f2)
      simp at e2
      subst e2
      have b2 := bounds_u32 wf2
      obtain ⟨n2, rfl⟩ := Int.eq_ofNat_of_zero_le (show 0 ≤ d2 by omega)
      obtain ⟨d3, e3, _, wf3⟩ := DataW.trod_int Try.underlying22 (show _ = some y3 from f3)
      simp at e3
      subst e3
      have b3 := bounds_u32 wf3
      obtain ⟨n3, rfl⟩ := Int.eq_ofNat_of_zero_le (show 0 ≤ d3 by omega)
      obtain ⟨d4, e4, _, wf4⟩ := DataW.trod_int Try.underlying22 (show _ = some y4 from f4)
      simp at e4
      subst e4
      have b4 := bounds_u32 wf4
      obtain ⟨n4, rfl⟩ := Int.eq_ofNat_of_zero_le (show 0 ≤ d4 by omega)
      obtain ⟨d5, e5, _⟩ := DataW.trod_bool Try.underlying4 (show _ = some y5 from f5)
      simp at e5
      subst e5
      rcases open_ints Try.underlying23 Try.underlying5 h_uint8 (show _ = some y6 from f6) with ⟨e2, _⟩ | ⟨x2, l2, cp2, zs, e2, _, hl2, hm2, hz2, _, hcell2, hwz2⟩
      · simp at e2
        subst e2
        exact ⟨⟨n0, n1, n2, n3, n4, d5, []⟩, none, 0, 0, [], rfl, ⟨by simp only; omega, by simp only; omega, by simp only; omega, by simp only; omega, by simp only; omega⟩, .inl ⟨rfl, rfl, rfl, rfl⟩⟩
      · simp at e2
        subst e2
        exact ⟨⟨n0, n1, n2, n3, n4, d5, []⟩, some x2, l2, cp2, zs, rfl, ⟨by simp only; omega, by simp only; omega, by simp only; omega, by simp only; omega, by simp only; omega⟩, .inr ⟨x2, rfl, hl2, hm2, by simpa using hz2, hcell2, hwz2⟩⟩

end Go.Proofs.Ytafpgglebjllbaa
