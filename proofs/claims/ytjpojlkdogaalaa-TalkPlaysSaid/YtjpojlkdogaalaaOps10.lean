/-
  A slice of layer 10's Ops that came in.
-/
import Derived.Test.YtjpojlkdogaalaaRtT
namespace Go.Proofs.Ytjpojlkdogaalaa
open Go.RowKit Go.ChangeShapes Go.Deep
set_option linter.unusedVariables false
set_option linter.unusedSimpArgs false

/-- What the walk is told of a slice of Ops that came in: for each its number, its bytes, its packet. -/
def IsOps10 (w : World) (a : Option Addr) (len cap : Nat) : Prop :=
  (a = none ∧ len = 0 ∧ cap = 0) ∨
  ∃ x, a = some x ∧ len ≤ cap ∧ cap ≤ maxLen ∧ ∀ r, r < len → ∃ (d : Nat) (A : Option Addr) (L C : Nat) (zs : List Int) (k : Pk) (A2 : Option Addr) (L2 C2 : Nat) (zs2 : List Int),
    w.cell? (x.add (r * 9)) = some (.int .u8 (d : Int)) ∧ d < 256 ∧ w.cell? (x.add (r * 9 + 1)) = some (.slice A L C) ∧ IsRow .u8 w A L C zs ∧ w.cell? (x.add (r * 9 + 2)) = some (.int .u8 k.node) ∧ w.cell? (x.add (r * 9 + 3)) = some (.int .u32 k.epoch) ∧ w.cell? (x.add (r * 9 + 4)) = some (.int .u32 k.life) ∧ w.cell? (x.add (r * 9 + 5)) = some (.int .u32 (k.seq : Int)) ∧ w.cell? (x.add (r * 9 + 6)) = some (.int .u32 (k.ack : Int)) ∧ w.cell? (x.add (r * 9 + 7)) = some (.bool k.plain) ∧ w.cell? (x.add (r * 9 + 8)) = some (.slice A2 L2 C2) ∧ (k.seq < 4294967296 ∧ k.ack < 4294967296) ∧ IsRow .u8 w A2 L2 C2 zs2

set_option maxRecDepth 100000 in
set_option maxHeartbeats 2000000 in
theorem isOps10_of {H : Type} {enc : TypeId × Value → H} {w : World} {base : Nat} {held : Bool} {a : Option Addr} {len cap : Nat} {d : DataW H} {p : List MemPlace}
    (h : DataW.Trod enc Try.prog w base (fun _ => true) held 23 (.slice a len cap) d p) : IsOps10 w a len cap := by
  obtain ⟨fuel, hf⟩ := h
  rcases open_slice Try.underlying23 hf with ⟨hcs, _⟩ | ⟨x, l, c, m, n, D, Pl, hcs, _, hl, hm, hmm, _, hi⟩
  · simp [Value.cells] at hcs
    obtain ⟨rfl, rfl, rfl⟩ := hcs
    exact .inl ⟨rfl, rfl, rfl⟩
  · simp [Value.cells] at hcs
    obtain ⟨rfl, rfl, rfl⟩ := hcs
    refine .inr ⟨x, rfl, hl, hm, fun r hr => ?_⟩
    have h3 : Try.prog.cellsOf 33 = 9 := by kernel_rfl
    have h_uint8 : Try.prog.cellsOf 5 = 1 := by kernel_rfl
    have h_uint32 : Try.prog.cellsOf 22 = 1 := by kernel_rfl
    have h_bool : Try.prog.cellsOf 4 = 1 := by kernel_rfl
    have h_bytes : Try.prog.cellsOf 29 = 1 := by kernel_rfl
    have h_pk : Try.prog.cellsOf 31 = 7 := by kernel_rfl
    simp only [if_true] at hmm
    obtain ⟨cs', hc, ht'⟩ := hi r (by omega)
    rw [h3] at hc
    obtain ⟨_, hcl, hat⟩ := World.cells?_some hc
    obtain ⟨xs, n', _, _, _, hxl, hfld⟩ := DataW.trod_struct Try.underlying33 ht'
    have f0 : DataW.trod enc Try.prog w base (fun _ => true) held n' 5 ((cs'.drop 0).take (Try.prog.cellsOf 5)) = xs[0]? := hfld 0 _ rfl
    have f1 : DataW.trod enc Try.prog w base (fun _ => true) held n' 29 ((cs'.drop 1).take (Try.prog.cellsOf 29)) = xs[1]? := hfld 1 _ rfl
    have f2 : DataW.trod enc Try.prog w base (fun _ => true) held n' 31 ((cs'.drop 2).take (Try.prog.cellsOf 31)) = xs[2]? := hfld 2 _ rfl
    rw [h_uint8] at f0
    rw [h_bytes] at f1
    rw [h_pk] at f2
    match cs', hcl with
    | [c0, c1, c2, c3, c4, c5, c6, c7, c8], _ =>
      match xs, hxl with
      | [y0, y1, y2], _ =>
        obtain ⟨d0, e0, _, wf0⟩ := DataW.trod_int Try.underlying5 (show _ = some y0 from f0)
        simp at e0
        subst e0
        have b0 := bounds_u8 wf0
        obtain ⟨n0, rfl⟩ := Int.eq_ofNat_of_zero_le (show 0 ≤ d0 by omega)
        obtain ⟨zs2, n2, _, _, _, hzl, hfld2⟩ := DataW.trod_struct Try.underlying31 (show _ = some y2 from f2)
        have g0 : DataW.trod enc Try.prog w base (fun _ => true) held n2 5 ((([c2, c3, c4, c5, c6, c7, c8] : List Value).drop 0).take (Try.prog.cellsOf 5)) = zs2[0]? := hfld2 0 _ rfl
        rw [h_uint8] at g0
        have g1 : DataW.trod enc Try.prog w base (fun _ => true) held n2 22 ((([c2, c3, c4, c5, c6, c7, c8] : List Value).drop 1).take (Try.prog.cellsOf 22)) = zs2[1]? := hfld2 1 _ rfl
        rw [h_uint32] at g1
        have g2 : DataW.trod enc Try.prog w base (fun _ => true) held n2 22 ((([c2, c3, c4, c5, c6, c7, c8] : List Value).drop 2).take (Try.prog.cellsOf 22)) = zs2[2]? := hfld2 2 _ rfl
        rw [h_uint32] at g2
        have g3 : DataW.trod enc Try.prog w base (fun _ => true) held n2 22 ((([c2, c3, c4, c5, c6, c7, c8] : List Value).drop 3).take (Try.prog.cellsOf 22)) = zs2[3]? := hfld2 3 _ rfl
        rw [h_uint32] at g3
        have g4 : DataW.trod enc Try.prog w base (fun _ => true) held n2 22 ((([c2, c3, c4, c5, c6, c7, c8] : List Value).drop 4).take (Try.prog.cellsOf 22)) = zs2[4]? := hfld2 4 _ rfl
        rw [h_uint32] at g4
        have g5 : DataW.trod enc Try.prog w base (fun _ => true) held n2 4 ((([c2, c3, c4, c5, c6, c7, c8] : List Value).drop 5).take (Try.prog.cellsOf 4)) = zs2[5]? := hfld2 5 _ rfl
        rw [h_bool] at g5
        have g6 : DataW.trod enc Try.prog w base (fun _ => true) held n2 29 ((([c2, c3, c4, c5, c6, c7, c8] : List Value).drop 6).take (Try.prog.cellsOf 29)) = zs2[6]? := hfld2 6 _ rfl
        rw [h_bytes] at g6
        match zs2, hzl with
        | [u0, u1, u2, u3, u4, u5, u6], _ =>
          obtain ⟨q0, eq0, _, wq0⟩ := DataW.trod_int Try.underlying5 (show _ = some u0 from g0)
          simp at eq0
          subst eq0
          have bq0 := bounds_u8 wq0
          obtain ⟨m0, rfl⟩ := Int.eq_ofNat_of_zero_le (show 0 ≤ q0 by omega)
          obtain ⟨q1, eq1, _, wq1⟩ := DataW.trod_int Try.underlying22 (show _ = some u1 from g1)
          simp at eq1
          subst eq1
          have bq1 := bounds_u32 wq1
          obtain ⟨m1, rfl⟩ := Int.eq_ofNat_of_zero_le (show 0 ≤ q1 by omega)
          obtain ⟨q2, eq2, _, wq2⟩ := DataW.trod_int Try.underlying22 (show _ = some u2 from g2)
          simp at eq2
          subst eq2
          have bq2 := bounds_u32 wq2
          obtain ⟨m2, rfl⟩ := Int.eq_ofNat_of_zero_le (show 0 ≤ q2 by omega)
          obtain ⟨q3, eq3, _, wq3⟩ := DataW.trod_int Try.underlying22 (show _ = some u3 from g3)
          simp at eq3
          subst eq3
          have bq3 := bounds_u32 wq3
          obtain ⟨m3, rfl⟩ := Int.eq_ofNat_of_zero_le (show 0 ≤ q3 by omega)
          obtain ⟨q4, eq4, _, wq4⟩ := DataW.trod_int Try.underlying22 (show _ = some u4 from g4)
          simp at eq4
          subst eq4
          have bq4 := bounds_u32 wq4
          obtain ⟨m4, rfl⟩ := Int.eq_ofNat_of_zero_le (show 0 ≤ q4 by omega)
          obtain ⟨q5, eq5, _⟩ := DataW.trod_bool Try.underlying4 (show _ = some u5 from g5)
          simp at eq5
          subst eq5
          have k0 := hat 0 (by omega)
          have k1 := hat 1 (by omega)
          have k2 := hat 2 (by omega)
          have k3 := hat 3 (by omega)
          have k4 := hat 4 (by omega)
          have k5 := hat 5 (by omega)
          have k6 := hat 6 (by omega)
          have k7 := hat 7 (by omega)
          have k8 := hat 8 (by omega)
          rw [add_add] at k0 k1 k2 k3 k4 k5 k6 k7 k8
          rcases open_ints Try.underlying29 Try.underlying5 h_uint8 (show _ = some y1 from f1) with ⟨eA, _⟩ | ⟨xA, lA, cpA, zzA, eA, _, hlA, hmA, hzA, _, hcellA, hwzA⟩
          · simp at eA
            subst eA
            rcases open_ints Try.underlying29 Try.underlying5 h_uint8 (show _ = some u6 from g6) with ⟨eB, _⟩ | ⟨xB, lB, cpB, zzB, eB, _, hlB, hmB, hzB, _, hcellB, hwzB⟩
            · simp at eB
              subst eB
              exact ⟨n0, none, 0, 0, [], ⟨(m0 : Int), (m1 : Int), (m2 : Int), m3, m4, q5, []⟩, none, 0, 0, [], by simpa using k0, by omega, by simpa using k1, .inl ⟨rfl, rfl, rfl, rfl⟩, by simpa using k2, by simpa using k3, by simpa using k4, by simpa using k5, by simpa using k6, by simpa using k7, by simpa using k8, by simp only; omega, .inl ⟨rfl, rfl, rfl, rfl⟩⟩
            · simp at eB
              subst eB
              exact ⟨n0, none, 0, 0, [], ⟨(m0 : Int), (m1 : Int), (m2 : Int), m3, m4, q5, []⟩, some xB, lB, cpB, zzB, by simpa using k0, by omega, by simpa using k1, .inl ⟨rfl, rfl, rfl, rfl⟩, by simpa using k2, by simpa using k3, by simpa using k4, by simpa using k5, by simpa using k6, by simpa using k7, by simpa using k8, by simp only; omega, .inr ⟨xB, rfl, hlB, hmB, by simpa using hzB, hcellB, hwzB⟩⟩
          · simp at eA
            subst eA
            rcases open_ints Try.underlying29 Try.underlying5 h_uint8 (show _ = some u6 from g6) with ⟨eB, _⟩ | ⟨xB, lB, cpB, zzB, eB, _, hlB, hmB, hzB, _, hcellB, hwzB⟩
            · simp at eB
              subst eB
              exact ⟨n0, some xA, lA, cpA, zzA, ⟨(m0 : Int), (m1 : Int), (m2 : Int), m3, m4, q5, []⟩, none, 0, 0, [], by simpa using k0, by omega, by simpa using k1, .inr ⟨xA, rfl, hlA, hmA, by simpa using hzA, hcellA, hwzA⟩, by simpa using k2, by simpa using k3, by simpa using k4, by simpa using k5, by simpa using k6, by simpa using k7, by simpa using k8, by simp only; omega, .inl ⟨rfl, rfl, rfl, rfl⟩⟩
            · simp at eB
              subst eB
              exact ⟨n0, some xA, lA, cpA, zzA, ⟨(m0 : Int), (m1 : Int), (m2 : Int), m3, m4, q5, []⟩, some xB, lB, cpB, zzB, by simpa using k0, by omega, by simpa using k1, .inr ⟨xA, rfl, hlA, hmA, by simpa using hzA, hcellA, hwzA⟩, by simpa using k2, by simpa using k3, by simpa using k4, by simpa using k5, by simpa using k6, by simpa using k7, by simpa using k8, by simp only; omega, .inr ⟨xB, rfl, hlB, hmB, by simpa using hzB, hcellB, hwzB⟩⟩

theorem IsOps10.bounds {w : World} {a : Option Addr} {len cap : Nat} (h : IsOps10 w a len cap) : len ≤ cap ∧ cap ≤ 9223372036854775807 := by
  rcases h with ⟨rfl, rfl, rfl⟩ | ⟨x, rfl, h1, h2, _⟩
  · exact ⟨Nat.le_refl _, by omega⟩
  · unfold maxLen at h2
    exact ⟨h1, by omega⟩

/-- A cut of bytes that came in. -/
structure Cut (w : World) (A : Option Addr) (L C : Nat) (t : List UInt8) : Prop where
  len : t.length ≤ 60
  min : (if (60 : Int) < (L : Int) then (60 : Int) else (L : Int)) = (t.length : Int)
  l1 : (t.length : Int) ≤ (L : Int)
  l2 : (L : Int) ≤ (C : Int)
  l3 : (t.length : Int) ≤ (C : Int)
  l4 : C ≤ 9223372036854775807
  rd : Rd w (.slice A t.length C) t

theorem Cut.below {w w' : World} {A : Option Addr} {L C : Nat} {t : List UInt8} (h : Cut w A L C t) (hb : Below w.heap.size w w') : Cut w' A L C t := ⟨h.len, h.min, h.l1, h.l2, h.l3, h.l4, h.rd.below hb⟩

theorem cut_of {w : World} {A : Option Addr} {L C : Nat} {zs : List Int} (h : IsRow .u8 w A L C zs) : ∃ t, Cut w A L C t := by
  obtain ⟨l, hl, hrd⟩ := h.rd (min L 60) (by omega)
  have hbd := h.bounds
  refine ⟨l, by omega, ?_, by omega, by omega, by omega, hbd.2.1, by rw [hl]; exact hrd⟩
  rw [hl]; split <;> omega

/-- The cells of one. -/
def ocells (d : Nat) (A : Option Addr) (L C : Nat) (k : Pk) (A2 : Option Addr) (L2 C2 : Nat) : List Value := [.int .u8 (d : Int), .slice A L C, .int .u8 k.node, .int .u32 k.epoch, .int .u32 k.life, .int .u32 (k.seq : Int), .int .u32 (k.ack : Int), .bool k.plain, .slice A2 L2 C2]

/-- One of them, its bytes cut. -/
theorem IsOps10.at {w : World} {a : Option Addr} {len cap : Nat} (h : IsOps10 w a len cap) (j : Nat) (hj : j < len) :
    ∃ b off, a = some ⟨b, off, none⟩ ∧ b < w.heap.size ∧ ∃ (d : Nat) (A : Option Addr) (L C : Nat) (t : List UInt8) (k : Pk) (A2 : Option Addr) (L2 C2 : Nat),
      w.rangeAt b (off + j * 9) (ocells d A L C k A2 L2 C2) ∧ d < 256 ∧ Cut w A L C t ∧ Cut w A2 L2 C2 k.data ∧ k.seq < 4294967296 ∧ k.ack < 4294967296 := by
  rcases h with ⟨_, rfl, _⟩ | ⟨x, rfl, h1, h2, hr⟩
  · omega
  · obtain ⟨b, off, spot⟩ := x
    obtain ⟨d, A, L, C, zs, k, A2, L2, C2, zs2, c0, hd, c1, hrow, c2, c3, c4, c5, c6, c7, c8, hk, hrow2⟩ := hr j hj
    obtain ⟨d0, A0, L0, C0, z0, q0, _, _, _, _, k0, _⟩ := hr 0 (by omega)
    have hs : spot = none := by simpa [Addr.add] using World.cell?_spot k0
    subst hs
    have hb : b < w.heap.size := by
      have := World.block_lt_of_cell? _ _ k0
      simpa [Addr.add] using this
    obtain ⟨t, ht⟩ := cut_of hrow
    obtain ⟨t2, ht2⟩ := cut_of hrow2
    rw [Addr.add_lit] at c0 c1 c2 c3 c4 c5 c6 c7 c8
    refine ⟨b, off, rfl, hb, d, A, L, C, t, k.cut t2, A2, L2, C2, fun i v hv => ?_, hd, ht, ht2, hk.1, hk.2⟩
    have hi : i < 9 := by
      have := (List.getElem?_eq_some_iff.1 hv).1
      simpa [ocells] using this
    have e : (ocells d A L C (k.cut t2) A2 L2 C2)[i]? = some v := hv
    rw [Nat.add_assoc]
    match i, hi, e with
    | 0, _, e => exact c0.trans e
    | 1, _, e => exact c1.trans e
    | 2, _, e => exact c2.trans e
    | 3, _, e => exact c3.trans e
    | 4, _, e => exact c4.trans e
    | 5, _, e => exact c5.trans e
    | 6, _, e => exact c6.trans e
    | 7, _, e => exact c7.trans e
    | 8, _, e => exact c8.trans e

end Go.Proofs.Ytjpojlkdogaalaa
