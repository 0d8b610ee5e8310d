/-
  Each request has one answer and makes one job at most, however often it is told; what is over is never active again; no number comes twice.
  (The frame behind the walk is the guide's shell, at these parameters.)
-/
import Derived.Test.YtahiaifdfgkemaaRows
import Derived.WalkKit
import Derived.Test.YtahiaifdfgkemaaJbOO
import Derived.Test.YtahiaifdfgkemaaJbW
import Derived.ProofKit
import Derived.Deep.Cut
import Derived.Deep.CutRange
import Derived.Deep.CutBlock
import Derived.Deep.Grids
import Derived.OpenShut
import Derived.ShutString
import Derived.ChangeOld
import Derived.Below
namespace Go.Proofs.Ytahiaifdfgkemaa.jobsOnce
open Go.ChangeShapes Go.WideShapes Go.ChangeAt Go.RowKit
open Go.ChangeMaps (open_string shut_string)
set_option linter.unusedVariables false

theorem own : ownKnob Try.prog.godebug = none := by kernel_rfl
theorem laidOut : laidOutB Try.prog = true := by kernel_rfl

set_option linter.unusedSimpArgs false
/-- What the walk is told of a slice of bools that came in. -/
def IsBools (w : World) (a : Option Addr) (len cap : Nat) : Prop :=
  (a = none ∧ len = 0 ∧ cap = 0) ∨ ∃ (x : Addr) (B : Nat → Bool), a = some x ∧ len ≤ cap ∧ cap ≤ maxLen ∧ ∀ i, i < cap → w.cell? (x.add i) = some (.bool (B i))

theorem isBools_of {H : Type} {enc : TypeId × Value → H} {w : World} {base : Nat} {held : Bool} {a : Option Addr} {len cap : Nat} {d : DataW H} {p : List MemPlace}
    (h : DataW.Trod enc Try.prog w base (fun _ => true) held 23 (.slice a len cap) d p) : IsBools w a len cap := by
  obtain ⟨fuel, hf⟩ := h
  rcases Go.Deep.open_bools Try.underlying23 Try.underlying4 (by kernel_rfl) hf with ⟨hcs, _⟩ | ⟨x, l, c, B, hcs, _, hl, hm, _, hcell⟩
  · simp [Value.cells] at hcs
    obtain ⟨rfl, rfl, rfl⟩ := hcs
    exact .inl ⟨rfl, rfl, rfl⟩
  · simp [Value.cells] at hcs
    obtain ⟨rfl, rfl, rfl⟩ := hcs
    exact .inr ⟨x, B, rfl, hl, hm, hcell⟩

theorem IsBools.below {w w' : World} {a : Option Addr} {len cap : Nat} (h : IsBools w a len cap) (hb : Below w.heap.size w w') : IsBools w' a len cap := by
  rcases h with h | ⟨x, B, rfl, h1, h2, h3⟩
  · exact .inl h
  · refine .inr ⟨x, B, rfl, h1, h2, fun i hi => ?_⟩
    have := h3 i hi
    rw [hb.cell (World.block_lt_of_cell? _ _ this)]; exact this

theorem IsBools.at {w : World} {a : Option Addr} {len cap : Nat} (h : IsBools w a len cap) (k : Nat) (hk : k < len) : ∃ g o v, a = some ⟨g, o, none⟩ ∧ w.cell? ⟨g, o + k, none⟩ = some (.bool v) := by
  rcases h with ⟨_, rfl, _⟩ | ⟨⟨g, o, s⟩, B, rfl, h1, h2, h3⟩
  · omega
  · have h0 := h3 0 (by omega)
    have hs : s = none := by simpa [Addr.add] using World.cell?_spot h0
    subst hs
    have := h3 k (by omega)
    rw [Addr.add_lit] at this
    exact ⟨g, o, _, rfl, this⟩

theorem IsBools.bounds {w : World} {a : Option Addr} {len cap : Nat} (h : IsBools w a len cap) : len ≤ cap ∧ cap ≤ 9223372036854775807 := by
  rcases h with ⟨rfl, rfl, rfl⟩ | ⟨x, B, rfl, h1, h2, _⟩
  · exact ⟨Nat.le_refl _, by omega⟩
  · unfold maxLen at h2
    exact ⟨h1, by omega⟩
/-- Another block than the table's. -/
theorem tb_nmap {w : World} {lo b m : Nat} {va vo : Value} {t : Tb} {k e : TypeId} {q : IntKind} {c : Nat} {S : Int → Bool} (h : TbAt w lo b va vo t) (hm : SetAt k e q w m c S) : ¬ Tk b va vo m := by
  obtain ⟨D, ⟨es, clock, h1, _⟩, _⟩ := hm
  rintro (rfl | e | e)
  · rw [h.blk] at h1; simp at h1
  · obtain ⟨cc, hc⟩ := owns_ty h.oa m e
    rw [hc] at h1; simp at h1
  · obtain ⟨cc, hc⟩ := owns_ty h.oo m e
    rw [hc] at h1; simp at h1
theorem zeroB (w : World) : (zeroValue 4).run Try.prog w = .ok (.bool false) w := by
  have hinfo : (Try.prog.info? 4).map (fun i => (i.zero, i.size, i.bytes)) = some (some (.bool false), 1, 1) := by kernel_rfl
  obtain ⟨i, hi, hz0, hz1, hz2⟩ := info_parts hinfo
  simp [zeroValue, typeInfo, hi, hz0, Sem.run_bind]
theorem do_t (w : World) (lo b : Nat) (va vo : Value) (t t' : Tb) (q : Note.Q) (r : Note.R) (ok : Bool) (h : TbAt w lo b va vo t) (hv : t.over.length ≤ 64) (hl : t.last < 100000) (hq : q.wf) (e : t.do q = ((r, ok), t')) :
    Calls Try.prog 9 #[.pointer (some ⟨b, 0, none⟩), .agg #[.int .u8 (q.cl : Int), .int .u32 (q.s : Int), .int .u8 (q.k : Int), .int .u8 (q.t : Int), .int .i64 q.kk, .int .i64 q.w, .int .u32 (q.j : Int)]] w fun e w' => e = .returned (.tuple #[.agg #[.int .u8 (r.cl : Int), .int .u32 (r.s : Int), .int .i64 r.e, .int .u32 (r.j : Int), .int .u8 (r.st : Int), .int .i64 r.c], .bool ok]) ∧ ∃ va' vo', Stp w lo b va vo w' va' vo' t' := by
  have h1 := do_any w lo b va vo t q h hv hl hq
  rw [e] at h1
  exact h1
/-- What lies there of a table, and what is seen of it. -/
structure JoAt (w wr : World) (b m : Nat) (va vo : Value) (t : Tb) (c : Nat) (S : Int → Bool) (k : Nat) : Prop where
  tb : TbAt wr b b va vo t
  ok : t.ok
  last : t.last ≤ k
  set : SetAt 30 4 .u32 wr m c S
  gone : ∀ z : Nat, z ≤ 4294967295 → S (z : Int) = true → z ≤ t.last ∧ ∀ x ∈ t.act, x.1 ≠ z
  cnt : c ≤ 64 * k
  bel : Below w.heap.size w wr
  mlo : w.heap.size ≤ m
  blo : w.heap.size ≤ b
section
variable {w wr w2 : World} {b m : Nat} {va vo va' vo' : Value} {t t' : Tb} {c : Nat} {S : Int → Bool} {k : Nat}
theorem JoAt.below (h : JoAt w wr b m va vo t c S k) (hb : Below wr.heap.size wr w2) : JoAt w w2 b m va vo t c S k :=
  ⟨h.tb.below hb, h.ok, h.last, h.set.block (hb.block m h.set.lt), h.gone, h.cnt, h.bel.trans (hb.mono h.bel.size), h.mlo, h.blo⟩
theorem JoAt.next (h : JoAt w wr b m va vo t c S k) (hs : Stp wr b b va vo w2 va' vo' t') (hn : t.next t') (hk : t'.last ≤ k) : JoAt w w2 b m va' vo' t' c S k :=
  ⟨hs.tb, hn.ok, hk, h.set.block (hs.k.block m h.set.lt (tb_nmap h.tb h.set)), fun z hz hS => ⟨by have := (h.gone z hz hS).1; rcases hn.last with e | e <;> omega, hn.gone z (h.gone z hz hS).1 (h.gone z hz hS).2⟩, h.cnt, hs.bel h.tb h.bel h.blo h.bel.size, h.mlo, h.blo⟩
theorem JoAt.put (h : JoAt w wr b m va vo t c S k) {x : Jb} (hx : x ∈ t.over) (hset : SetAt 30 4 .u32 w2 m (c + 1) (fun y => if y = (x.1 : Int) then true else S y)) (hg : wr.grownBy w2 (some m)) (hc : c + 1 ≤ 64 * k) : JoAt w w2 b m va vo t (c + 1) (fun y => if y = (x.1 : Int) then true else S y) k := by
  have hk := Keeps.of_grown hg
  refine ⟨h.tb.keeps hk (fun i hi e => ?_), h.ok, h.last, hset, fun z hz hS => ?_, hc, h.bel.grown hg h.bel.size (fun q hq => ?_), h.mlo, h.blo⟩
  · have e : some m = some i := e
    simp only [Option.some.injEq] at e
    subst e
    exact tb_nmap h.tb h.set hi
  · by_cases e : (z : Int) = (x.1 : Int)
    · have e' : z = x.1 := by omega
      subst e'
      exact ⟨h.ok.ole x hx, fun y hy => h.ok.apart x hx y hy⟩
    · rw [if_neg e] at hS
      exact h.gone z hz hS
  · simp only [Option.some.injEq] at hq
    subst hq
    exact h.mlo
theorem tb_nty {T : TypeId} {cs : Array Value} {p : Nat} (h : TbAt wr b b va vo t) (hx : wr.heap[p]? = some (.cells cs T (0, 0))) (h1 : T ≠ 44) (h2 : T ≠ 58) : ¬ Tk b va vo p := by
  rintro (rfl | e | e)
  · have := h.blk
    rw [hx] at this
    simp only [Option.some.injEq, Obj.cells.injEq] at this
    exact h2 this.2.1
  · obtain ⟨cc, hc⟩ := owns_ty h.oa p e
    rw [hx] at hc
    simp only [Option.some.injEq, Obj.cells.injEq] at hc
    exact h1 hc.2.1
  · obtain ⟨cc, hc⟩ := owns_ty h.oo p e
    rw [hx] at hc
    simp only [Option.some.injEq, Obj.cells.injEq] at hc
    exact h1 hc.2.1
theorem fin_last (t : Tb) (z : Nat) : (t.finish z).2.last = t.last := by
  unfold Tb.finish
  rcases at_cases t z with ⟨_, e⟩ | ⟨_, _, e⟩ | ⟨_, i, x, _, hx, _, e⟩ <;> rw [e] <;> rfl
theorem JoAt.up (h : JoAt w wr b m va vo t c S k) : JoAt w wr b m va vo t c S (k + 1) := ⟨h.tb, h.ok, by have := h.last; omega, h.set, h.gone, by have := h.cnt; omega, h.bel, h.mlo, h.blo⟩
theorem own_kg {lo : Nat} {v : Value} {l : List Jb} (h : OwnJ wr lo v l) (hg : wr.grownBy w2 (some m)) (hm : m < lo) : OwnJ w2 lo v l :=
  owns_by h fun q hq => (Keeps.of_grown hg).block q (World.ownsRow.lt h q hq).2 (fun e => by simp only [Option.some.injEq] at e; have := (World.ownsRow.lt h q hq).1; omega)
end
set_option maxRecDepth 100000 in
set_option maxHeartbeats 8000000 in
theorem walk (a0 : Option Addr) (len0 cap0 : Nat) (a1 : Option Addr) (len1 cap1 : Nat) (w : World) (w0 : IsOps16 w a0 len0 cap0) (w1 : IsBools w a1 len1 cap1) :
    Calls Try.prog 3 #[.slice a0 len0 cap0, .slice a1 len1 cap1] w fun e w' => e = .returned (.bool true) ∧ Below w.heap.size w w' := by
  obtain ⟨hlc, hcm⟩ := w0.bounds
  have HOPS := hid w0
  have HBO := hid w1
  clear w0 w1
  go_enter Try.func3, Try.ntmps3
  go_wp2_with fail
  refine (awake16_any w).mono ?_
  rintro e x1 ⟨rfl, hb1⟩
  have HB1 := hid hb1
  clear hb1
  go_wp2_with fail
  refine (jnew_any 4 x1 (by omega) (by omega)).mono ?_
  rintro e x2 ⟨rfl, ht, hb⟩
  obtain ⟨b, hbb⟩ : ∃ b, b = x1.heap.size := ⟨_, rfl⟩
  have HLO := hid (show w.heap.size ≤ b by have := HB1.out.size; omega)
  rw [← hbb] at ht
  simp only [← hbb]
  have HT := hid ht
  have HB := hid (HB1.out.trans (hb.mono HB1.out.size))
  clear ht hb hbb HB1
  obtain ⟨x3, hx3⟩ : ∃ x3, x3 = x2.alloc (.map #[] 0) := ⟨_, rfl⟩
  have HJ := hid (show JoAt w x3 b x2.heap.size (.slice none 0 0) (.slice none 0 0) (newTb 4) 0 (fun _ => false) 0 from by
    have hbx : Below x2.heap.size x2 x3 := by rw [hx3]; exact (Below.refl _ _).alloc (Nat.le_refl _) _
    exact ⟨HT.out.below hbx, ok_new 4, Nat.le_refl _, by rw [hx3]; exact SetAt.new _ _ _ x2, fun z _ h => (by cases h), Nat.zero_le _, HB.out.trans (hbx.mono HB.out.size), HB.out.size, HLO.out⟩)
  obtain ⟨m, hm⟩ : ∃ m, m = x2.heap.size := ⟨_, rfl⟩
  rw [← hm] at HJ
  have hmm : ∀ w : World, (Instr.makeMap 29 none).run Try.prog w = .ok (.map (some w.heap.size)) (w.alloc (.map #[] 0)) := fun w => rfl
  go_wp2_with fail
  clear hmm
  rw [← hx3]
  simp only [← hm]
  clear hx3 hm HT HB
  refine (jnext_any x3 b b _ _ _ HJ.out.tb (by decide)).mono ?_
  rintro e x4 ⟨rfl, rfl⟩
  go_wp2_with fail
  go_loopw [8, 30] (fun vn vi wr => ∃ (k : Nat) (va vo : Value) (t : Tb) (c : Nat) (S : Int → Bool), k ≤ len0 ∧ k ≤ 60 ∧ vi = .int .i64 k ∧ vn = .int .u32 ((t.last + 1 : Nat) : Int) ∧ JoAt w wr b m va vo t c S k) (fun _ i _ => len0 - (intOf i).toNat)
  case atStart => exact ⟨0, _, _, newTb 4, 0, _, Nat.zero_le _, Nat.zero_le _, rfl, rfl, HJ.out⟩
  case round =>
    obtain ⟨k, va, vo, t, c, S, hk, hk60, rfl, rfl, hj⟩ := hrel
    obtain ⟨N0, hN0⟩ : ∃ N0, N0 = t.last + 1 := ⟨_, rfl⟩
    rw [← hN0]
    have HN0 := hid hN0
    clear hN0
    have HJ := hid hj
    have hl60 := hj.last
    have hBW := hid hj.bel
    clear hj
    by_cases hlt : k < len0
    · have hki : (k : Int) < (len0 : Int) := by omega
      obtain ⟨sb, off, d, q, nn, rfl, hd, hqw, hsb, c0, c1, c2, c3, c4, c5, c6, c7, c8⟩ := HOPS.out.at hBW.out hlt
      have HQ := hid hqw
      clear hqw
      obtain ⟨wm, hwm⟩ : ∃ wm, wm = wr.alloc (.cells #[.int .u8 (d : Int), .int .u8 (q.cl : Int), .int .u32 (q.s : Int), .int .u8 (q.k : Int), .int .u8 (q.t : Int), .int .i64 q.kk, .int .i64 q.w, .int .u32 (q.j : Int), .int .i64 nn] 35) := ⟨_, rfl⟩
      have hbm : Below wr.heap.size wr wm := by rw [hwm]; exact (Below.refl _ _).alloc (Nat.le_refl _) _
      have HBM := hid hbm
      clear hbm
      by_cases h60 : k < 60
      · have hk6 : decide ((k : Int) ≥ 60) = false := decide_eq_false (by omega)
        have HWK := hid hk60
        clear hk60
        go_upto_region 10 with fail
        rw [← hwm]
        obtain ⟨p, hp⟩ : ∃ p, p = wr.heap.size := ⟨_, rfl⟩
        have hxm : wm.heap[p]? = some (.cells #[.int .u8 (d : Int), .int .u8 (q.cl : Int), .int .u32 (q.s : Int), .int .u8 (q.k : Int), .int .u8 (q.t : Int), .int .i64 q.kk, .int .i64 q.w, .int .u32 (q.j : Int), .int .i64 nn] 35 (0, 0)) := by rw [hwm, hp]; exact heap_alloc_new wr _
        have HXM := hid hxm
        have HJM := hid ((HJ.out.below HBM.out).up)
        have HPB := hid (show ∀ i, Tk b va vo i → i < p from fun i hi => by rw [hp]; exact (HJ.out.tb.tk_lt hi).2)
        have HPM := hid (show m < p by rw [hp]; exact HJ.out.set.lt)
        have HC0 := hid HJ.out.cnt
        simp only [← hp]
        clear hwm hp
        have z1 : wm.cell? ⟨p, 1, none⟩ = some (.int .u8 (q.cl : Int)) := (cell_of_row _ _ _ _ _ _ HXM.out).trans rfl
        have z2 : wm.cell? ⟨p, 2, none⟩ = some (.int .u32 (q.s : Int)) := (cell_of_row _ _ _ _ _ _ HXM.out).trans rfl
        have z3 : wm.cell? ⟨p, 3, none⟩ = some (.int .u8 (q.k : Int)) := (cell_of_row _ _ _ _ _ _ HXM.out).trans rfl
        have z4 : wm.cell? ⟨p, 4, none⟩ = some (.int .u8 (q.t : Int)) := (cell_of_row _ _ _ _ _ _ HXM.out).trans rfl
        have z5 : wm.cell? ⟨p, 5, none⟩ = some (.int .i64 q.kk) := (cell_of_row _ _ _ _ _ _ HXM.out).trans rfl
        have z6 : wm.cell? ⟨p, 6, none⟩ = some (.int .i64 q.w) := (cell_of_row _ _ _ _ _ _ HXM.out).trans rfl
        have z7 : wm.cell? ⟨p, 7, none⟩ = some (.int .u32 (q.j : Int)) := (cell_of_row _ _ _ _ _ _ HXM.out).trans rfl
        clear hxm c0 c1 c2 c3 c4 c5 c6 c7 c8
        have HOV := hid HJM.out.ok.o64
        obtain ⟨⟨⟨r, dn⟩, t1⟩, hdo⟩ : ∃ x, x = t.do q := ⟨_, rfl⟩
        obtain ⟨hnx, hnf, hnt⟩ := next_do HJM.out.ok q
        rw [← hdo] at hnx hnf hnt
        dsimp only at hnx hnf hnt
        have HNX := hid hnx
        have HNT := hid hnt
        have HDF := hid (show t1.last = t.last ∨ (t1.last = t.last + 1 ∧ dn = true) from by
          rcases hnx.last with e | e
          · exact .inl e
          · refine .inr ⟨e, ?_⟩
            cases dn with
            | true => rfl
            | false => have := hnf rfl; rw [this] at e; omega)
        have hl61 : t.last ≤ 60 := Nat.le_trans hl60 (by have := HWK.out; omega)
        have HL1 := hid (show t1.last ≤ k + 1 by rcases HNX.out.last with e | e <;> omega)
        have hL1 : t1.last ≤ 61 := by rcases hnx.last with e | e <;> omega
        have HDO := hid (do_t wm b b va vo t t1 q r dn HJM.out.tb HOV.out (by omega) HQ.out hdo.symm)
        clear hnx hnf hnt hdo
        go_wp2_with fail
        refine HDO.out.mono ?_
        rintro e w5 ⟨rfl, va1, vo1, hs⟩
        have HJ5 := hid (HJM.out.next hs HNX.out HL1.out)
        have hx5 := (hs.k.block p (Array.getElem?_eq_some_iff.1 HXM.out).1 (fun hi => by have := HPB.out p hi; omega)).trans HXM.out
        have hs5 := hs.k.size
        have hp5 := (Array.getElem?_eq_some_iff.1 hx5).1
        have HX5 := hid hx5
        clear hs hx5 z1 z2 z3 z4 z5 z6 z7
        obtain ⟨w6, hw6⟩ : ∃ w6, w6 = w5.alloc (.cells #[.int .u8 (r.cl : Int), .int .u32 (r.s : Int), .int .i64 r.e, .int .u32 (r.j : Int), .int .u8 (r.st : Int), .int .i64 r.c] 37) := ⟨_, rfl⟩
        obtain ⟨p1, hp1⟩ : ∃ p1, p1 = w5.heap.size := ⟨_, rfl⟩
        have hb6 : Below w5.heap.size w5 w6 := by rw [hw6]; exact (Below.refl _ _).alloc (Nat.le_refl _) _
        have hx6 : w6.heap[p1]? = some (.cells #[.int .u8 (r.cl : Int), .int .u32 (r.s : Int), .int .i64 r.e, .int .u32 (r.j : Int), .int .u8 (r.st : Int), .int .i64 r.c] 37 (0, 0)) := by rw [hw6, hp1]; exact heap_alloc_new w5 _
        have HX6 := hid hx6
        have HJ6 := hid (HJ5.out.below hb6)
        have HY6 := hid ((hb6.block p hp5).trans HX5.out)
        have hp16 := (Array.getElem?_eq_some_iff.1 hx6).1
        have hpp : p < p1 := by rw [hp1]; exact hp5
        clear hb6 hx6 HJ5 HX5 HJM hs5
        go_upto_region 11 with fail
        rw [← hw6]
        simp only [← hp1]
        clear hw6 hp1
        have hN0 := HN0.out
        obtain ⟨N1, hN1⟩ : ∃ N1, N1 = t1.last + 1 := ⟨_, rfl⟩
        have HNEX := hid (fun W va vo (h : TbAt W b b va vo t1) => jnext_any W b b va vo t1 h (by omega))
        rw [← hN1] at HNEX
        have hN61 : N0 ≤ 61 := by omega
        have hN62 : N1 ≤ 62 := by omega
        have HN1 := hid hN1
        have hNge : N0 ≤ N1 := by rcases HNX.out.last with e | e <;> omega
        have hNle : N1 ≤ N0 + 1 := by rcases HNX.out.last with e | e <;> omega
        have HDN := hid (show N1 = N0 ∨ dn = true from HDF.out.elim (fun e => .inl (by omega)) (fun e => .inr e.2))
        clear hN0 hN1 hl61 hL1 hl60
        go_cut [12, 64] from 44 to 63 (fun v12 v64 wx => v12 = .bool dn ∧ v64 = .bool false ∧ wx = w6)
        case first =>
          have hw1 : IntKind.u32.wrap ((N0 : Int) + 1) = (N0 : Int) + 1 := by rw [IntKind.wrap_u32]; omega
          have d1 : decide ((N1 : Int) < (N0 : Int)) = false := decide_eq_false (by omega)
          have d2 : decide ((N1 : Int) > (N0 : Int) + 1) = false := decide_eq_false (by omega)
          have n1 : ¬ N1 < N0 := by omega
          have n2 : ¬ N0 + 1 < N1 := by omega
          by_cases hg : N0 < N1
          · obtain rfl : dn = true := HDN.out.elim (fun e => absurd e (by omega)) id
            have d3 : decide ((N1 : Int) > (N0 : Int)) = true := decide_eq_true (by omega)
            go_wp2_with fail
            refine (HNEX.out _ _ _ HJ6.out.tb).mono ?_
            rintro e w9 ⟨rfl, rfl⟩
            go_wp2_with fail
            refine (HNEX.out _ _ _ HJ6.out.tb).mono ?_
            rintro e w9 ⟨rfl, rfl⟩
            go_wp2_with fail
            refine (HNEX.out _ _ _ HJ6.out.tb).mono ?_
            rintro e w9 ⟨rfl, rfl⟩
            go_wp2_with fail
            go_meet
            exact ⟨rfl, rfl, rfl⟩
          · have d3 : decide ((N1 : Int) > (N0 : Int)) = false := decide_eq_false (by omega)
            go_wp2_with fail
            refine (HNEX.out _ _ _ HJ6.out.tb).mono ?_
            rintro e w9 ⟨rfl, rfl⟩
            go_wp2_with fail
            refine (HNEX.out _ _ _ HJ6.out.tb).mono ?_
            rintro e w9 ⟨rfl, rfl⟩
            go_wp2_with fail
            refine (HNEX.out _ _ _ HJ6.out.tb).mono ?_
            rintro e w9 ⟨rfl, rfl⟩
            go_wp2_with fail
            go_meet
            exact ⟨rfl, rfl, rfl⟩
        case rest =>
          obtain ⟨rfl, rfl, hwc⟩ := hcut
          rw [hwc]
          clear hwc HNX HDF HDN
          go_wp2_with fail
          refine (HNEX.out _ _ _ HJ6.out.tb).mono ?_
          rintro e w9 ⟨rfl, rfl⟩
          go_upto_region 14 with fail
          have HBW6 := hid HJ6.out.bel
          obtain ⟨ag, hag⟩ : ∃ ag : Bool, ag = true ∨ ag = false := ⟨true, .inl rfl⟩
          clear hag ag
          go_cut [12, 79] from 67 to 78 (fun v12 v79 wx => v12 = .bool dn ∧ (v79 = .bool false ∨ (v79 = .bool true ∧ dn = true)) ∧ wx = w6)
          case first =>
            cases dn with
            | false =>
              go_wp2_with fail
              go_meet
              exact ⟨rfl, .inl rfl, rfl⟩
            | true =>
              by_cases hk1 : k < len1
              · have hki1 : (k : Int) < (len1 : Int) := by omega
                obtain ⟨g1, o1, vb, rfl, hvb⟩ := (HBO.out.below HBW6.out).at k hk1
                go_wp2_with fail
                go_meet
                cases vb with
                | false => exact ⟨rfl, .inl rfl, rfl⟩
                | true => exact ⟨rfl, .inr ⟨rfl, by first | trivial | rfl⟩, rfl⟩
              · have hki1 : ¬ (k : Int) < (len1 : Int) := by omega
                go_wp2_with fail
                go_meet
                exact ⟨rfl, .inl rfl, rfl⟩
          case rest =>
            obtain ⟨rfl, hv79, hwc⟩ := hcut
            rw [hwc]
            clear hwc
            go_upto_if 79 with fail
            go_cut [14] from 80 to 98 (fun v14 wx => ∃ va vo, JoAt w wx b m va vo t1 c S (k + 1) ∧ wx.heap[p]? = some (.cells #[.int .u8 (d : Int), .int .u8 (q.cl : Int), .int .u32 (q.s : Int), .int .u8 (q.k : Int), .int .u8 (q.t : Int), .int .i64 q.kk, .int .i64 q.w, .int .u32 (q.j : Int), .int .i64 nn] 35 (0, 0)))
            case first =>
              rcases hv79 with rfl | ⟨rfl, hdt⟩
              · go_wp2_with fail
                go_meet
                exact ⟨_, _, HJ6.out, HY6.out⟩
              · obtain rfl : dn = true := hdt
                have HDO2 := hid (do_t w6 b b va1 vo1 t1 t1 q r false HJ6.out.tb HJ6.out.ok.o64 (by have := HN1.out; omega) HQ.out (HNT.out rfl))
                have y1 : w6.cell? ⟨p, 1, none⟩ = some (.int .u8 (q.cl : Int)) := (cell_of_row _ _ _ _ _ _ HY6.out).trans rfl
                have y2 : w6.cell? ⟨p, 2, none⟩ = some (.int .u32 (q.s : Int)) := (cell_of_row _ _ _ _ _ _ HY6.out).trans rfl
                have y3 : w6.cell? ⟨p, 3, none⟩ = some (.int .u8 (q.k : Int)) := (cell_of_row _ _ _ _ _ _ HY6.out).trans rfl
                have y4 : w6.cell? ⟨p, 4, none⟩ = some (.int .u8 (q.t : Int)) := (cell_of_row _ _ _ _ _ _ HY6.out).trans rfl
                have y5 : w6.cell? ⟨p, 5, none⟩ = some (.int .i64 q.kk) := (cell_of_row _ _ _ _ _ _ HY6.out).trans rfl
                have y6 : w6.cell? ⟨p, 6, none⟩ = some (.int .i64 q.w) := (cell_of_row _ _ _ _ _ _ HY6.out).trans rfl
                have y7 : w6.cell? ⟨p, 7, none⟩ = some (.int .u32 (q.j : Int)) := (cell_of_row _ _ _ _ _ _ HY6.out).trans rfl
                go_wp2_with fail
                refine HDO2.out.mono ?_
                rintro e w7 ⟨rfl, va2, vo2, hs⟩
                have HJ7 := hid (HJ6.out.next hs (next_refl HJ6.out.ok) HJ6.out.last)
                have hx7 := (hs.k.block p (Array.getElem?_eq_some_iff.1 HY6.out).1 (tb_nty HJ6.out.tb HY6.out (by decide) (by decide))).trans HY6.out
                have hr7 := (hs.k.block p1 hp16 (tb_nty HJ6.out.tb HX6.out (by decide) (by decide))).trans HX6.out
                have HX7 := hid hx7
                have HR7 := hid hr7
                obtain ⟨w8, hw8⟩ : ∃ w8, w8 = w7.alloc (.cells #[.int .u8 (r.cl : Int), .int .u32 (r.s : Int), .int .i64 r.e, .int .u32 (r.j : Int), .int .u8 (r.st : Int), .int .i64 r.c] 37) := ⟨_, rfl⟩
                obtain ⟨p2, hp2⟩ : ∃ p2, p2 = w7.heap.size := ⟨_, rfl⟩
                have hb8 : Below w7.heap.size w7 w8 := by rw [hw8]; exact (Below.refl _ _).alloc (Nat.le_refl _) _
                have hx8 : w8.heap[p2]? = some (.cells #[.int .u8 (r.cl : Int), .int .u32 (r.s : Int), .int .i64 r.e, .int .u32 (r.j : Int), .int .u8 (r.st : Int), .int .i64 r.c] 37 (0, 0)) := by rw [hw8, hp2]; exact heap_alloc_new w7 _
                have hr8 := (hb8.block p1 (Array.getElem?_eq_some_iff.1 hr7).1).trans hr7
                have HX8 := hid ((hb8.block p (Array.getElem?_eq_some_iff.1 hx7).1).trans hx7)
                have HJ8 := hid (HJ7.out.below hb8)
                have a0 : w8.cell? ⟨p2, 0, none⟩ = some (.int .u8 (r.cl : Int)) := (cell_of_row _ _ _ _ _ _ hx8).trans rfl
                have a1 : w8.cell? ⟨p2, 1, none⟩ = some (.int .u32 (r.s : Int)) := (cell_of_row _ _ _ _ _ _ hx8).trans rfl
                have a2 : w8.cell? ⟨p2, 2, none⟩ = some (.int .i64 r.e) := (cell_of_row _ _ _ _ _ _ hx8).trans rfl
                have a3 : w8.cell? ⟨p2, 3, none⟩ = some (.int .u32 (r.j : Int)) := (cell_of_row _ _ _ _ _ _ hx8).trans rfl
                have a4 : w8.cell? ⟨p2, 4, none⟩ = some (.int .u8 (r.st : Int)) := (cell_of_row _ _ _ _ _ _ hx8).trans rfl
                have a5 : w8.cell? ⟨p2, 5, none⟩ = some (.int .i64 r.c) := (cell_of_row _ _ _ _ _ _ hx8).trans rfl
                have e0 : w8.cell? ⟨p1, 0, none⟩ = some (.int .u8 (r.cl : Int)) := (cell_of_row _ _ _ _ _ _ hr8).trans rfl
                have e1 : w8.cell? ⟨p1, 1, none⟩ = some (.int .u32 (r.s : Int)) := (cell_of_row _ _ _ _ _ _ hr8).trans rfl
                have e2 : w8.cell? ⟨p1, 2, none⟩ = some (.int .i64 r.e) := (cell_of_row _ _ _ _ _ _ hr8).trans rfl
                have e3 : w8.cell? ⟨p1, 3, none⟩ = some (.int .u32 (r.j : Int)) := (cell_of_row _ _ _ _ _ _ hr8).trans rfl
                have e4 : w8.cell? ⟨p1, 4, none⟩ = some (.int .u8 (r.st : Int)) := (cell_of_row _ _ _ _ _ _ hr8).trans rfl
                have e5 : w8.cell? ⟨p1, 5, none⟩ = some (.int .i64 r.c) := (cell_of_row _ _ _ _ _ _ hr8).trans rfl
                clear hs hx7 hr7 hb8 hx8 hr8
                go_upto_region 16 with fail
                rw [← hw8]
                simp only [← hp2]
                clear hw8 hp2
                go_wp2_with fail
                refine (HNEX.out _ _ _ HJ8.out.tb).mono ?_
                rintro e w9 ⟨rfl, rfl⟩
                go_wp2_with fail
                go_meet
                exact ⟨_, _, HJ8.out, HX8.out⟩
            case rest =>
              obtain ⟨va2, vo2, hj7, hx7⟩ := hcut
              obtain ⟨w7, hw7⟩ : ∃ w7, w7 = wc := ⟨_, rfl⟩
              subst hw7
              have HJ7 := hid hj7
              have s0 : w7.cell? ⟨p, 0, none⟩ = some (.int .u8 (d : Int)) := (cell_of_row _ _ _ _ _ _ hx7).trans rfl
              have s7 : w7.cell? ⟨p, 7, none⟩ = some (.int .u32 (q.j : Int)) := (cell_of_row _ _ _ _ _ _ hx7).trans rfl
              clear hj7 hx7 hv79 HY6 HX6 HJ6 HNT HNEX HBW6
              by_cases hd4 : d = 4
              · have hdi : decide ((d : Int) = 4) = true := decide_eq_true (by omega)
                have hdb : ((d : Int) == 4) = true := by simp; omega
                have HFN := hid (next_finish HJ7.out.ok q.j)
                have HFL := hid (fin_last t1 q.j)
                have HN2 := hid (show (t1.finish q.j).2.last + 1 = N1 by rw [HFL.out]; exact HN1.out.symm)
                go_wp2_with fail
                refine (finish_any w7 b b q.j _ _ t1 HJ7.out.tb HJ7.out.ok.o64 (by have := HJ7.out.tb.lt; omega)).mono ?_
                rintro e w7b ⟨rfl, va3, vo3, hs⟩
                have HJF := hid (HJ7.out.next hs HFN.out (by rw [HFL.out]; exact HJ7.out.last))
                clear hs s0 s7
                clear HFN HFL HJ7
                generalize (t1.finish q.j).1 = fe at *
                generalize (t1.finish q.j).2 = t2 at *
                obtain ⟨va2, hva⟩ : ∃ v, v = va3 := ⟨_, rfl⟩
                obtain ⟨vo2, hvo⟩ : ∃ v, v = vo3 := ⟨_, rfl⟩
                subst hva hvo
                go_wp2_with fail
                refine (jover_any w7b b b _ _ t2 HJF.out.tb).mono ?_
                rintro e w8 ⟨v8, rfl, ho8, hb8⟩
                have HJ8 := hid (HJF.out.below hb8)
                have HO8 := hid ho8
                obtain ⟨ao, co, rfl, -, -⟩ := owns_slice ho8
                obtain ⟨lo8, hlo8⟩ : ∃ lo8, lo8 = w7b.heap.size := ⟨_, rfl⟩
                have HM8 := hid (show m < lo8 by rw [hlo8]; exact HJF.out.set.lt)
                rw [← hlo8] at HO8
                have hov := HJ8.out.ok.o64
                clear ho8 hb8 hlo8
                go_wp2_with fail
                go_loopw [110] (fun vi wz => ∃ (j : Nat) (S' : Int → Bool), j ≤ t2.over.length ∧ vi = .int .i64 j ∧ JoAt w wz b m va2 vo2 t2 (c + j) S' (k + 1) ∧ OwnJ wz lo8 (.slice ao t2.over.length co) t2.over) (fun i _ => t2.over.length - (intOf i).toNat)
                case atStart => exact ⟨0, S, Nat.zero_le _, rfl, HJ8.out, HO8.out⟩
                case round =>
                  obtain ⟨j, S', hj, rfl, hjz, hoz⟩ := hrel
                  obtain ⟨wz, hwz⟩ : ∃ wz, wz = wr := ⟨_, rfl⟩
                  subst hwz
                  have HJZ := hid hjz
                  have HOZ := hid hoz
                  clear hjz hoz
                  by_cases hjl : j < t2.over.length
                  · have hji : (j : Int) < (t2.over.length : Int) := by omega
                    obtain ⟨x, hx⟩ : ∃ x, t2.over[j]? = some x := ⟨_, List.getElem?_eq_getElem hjl⟩
                    obtain ⟨jb, jo, jc, ev, hjc1, hjc2, hjb, i0, i1, i2, i3, i4, i5⟩ := (OwnJ.rd HOZ.out).item hx
                    simp only [Value.slice.injEq] at ev
                    obtain ⟨rfl, -, rfl⟩ := ev
                    have HXM9 := hid (List.mem_of_getElem? hx)
                    obtain ⟨w9, hw9⟩ : ∃ w9, w9 = wz.alloc (.cells #[.int .u32 (x.1 : Int), .int .u8 (x.2.1 : Int), .int .i64 x.2.2.1, .int .i64 x.2.2.2.1, .int .u8 (x.2.2.2.2.1 : Int), .int .i64 x.2.2.2.2.2] 44) := ⟨_, rfl⟩
                    have hb9 : Below wz.heap.size wz w9 := by rw [hw9]; exact (Below.refl _ _).alloc (Nat.le_refl _) _
                    have hx9 : w9.heap[wz.heap.size]? = some (.cells #[.int .u32 (x.1 : Int), .int .u8 (x.2.1 : Int), .int .i64 x.2.2.1, .int .i64 x.2.2.2.1, .int .u8 (x.2.2.2.2.1 : Int), .int .i64 x.2.2.2.2.2] 44 (0, 0)) := by rw [hw9]; exact heap_alloc_new wz _
                    have b0 : w9.cell? ⟨wz.heap.size, 0, none⟩ = some (.int .u32 (x.1 : Int)) := (cell_of_row _ _ _ _ _ _ hx9).trans rfl
                    have HJ9 := hid (HJZ.out.below hb9)
                    have HO9 := hid (owns_below HOZ.out hb9)
                    have HWF := hid (show (Lit.int .u32 (x.1 : Int)).wf = true from (Lit.wf_int_iff _ _).2 ⟨by show (0 : Int) ≤ _; omega, by have := HJZ.out.ok.ole x HXM9.out; have := HJZ.out.last; show _ ≤ (4294967295 : Int); omega⟩)
                    have HST := hid HJ9.out.set
                    have HCB := hid (show c + j + 1 ≤ 64 * (k + 1) by have := HC0.out; omega)
                    have HMX := hid (show c + j < maxLen by unfold maxLen; have := HCB.out; omega)
                    clear hx hb9 hx9
                    go_upto_region 23 with fail
                    rw [← hw9]
                    clear hw9 i0 i1 i2 i3 i4 i5
                    go_wp2_with (at_mapUpdate; (refine set_put rfl (.tmp 114) (.tmp 116) _ 29 30 4 .u32 rfl Try.underlying29 Try.underlying30 Try.underlying4 _ _ _ _ true rfl rfl rfl HWF.out HST.out HMX.out ?_); intro wx hSx2 hgx; have HJX := hid (HJ9.out.put HXM9.out hSx2 hgx HCB.out); have HOX := hid (own_kg HO9.out hgx HM8.out); clear hSx2 hgx)
                    go_roundw
                    case rel => exact ⟨j + 1, _, hjl, by go_num, HJX.out, HOX.out⟩
                    case measure => simp [intOf]; omega
                  · have hji : ¬ (j : Int) < (t2.over.length : Int) := by omega
                    clear HO8 HOZ
                    go_wp2_with fail
                    refine (jactive_any wz b b _ _ t2 HJZ.out.tb).mono ?_
                    rintro e w8' ⟨v8, rfl, ho8, hb8⟩
                    have HJA := hid (HJZ.out.below hb8)
                    have HOA := hid ho8
                    obtain ⟨aa, ca, rfl, -, -⟩ := owns_slice ho8
                    have hac := HJA.out.ok.a64
                    clear ho8 hb8
                    obtain ⟨cc, hcc⟩ : ∃ cc, cc = c + j := ⟨_, rfl⟩
                    rw [← hcc] at HJA
                    obtain ⟨lo9, hlo9⟩ : ∃ lo9, lo9 = wz.heap.size := ⟨_, rfl⟩
                    rw [← hlo9] at HOA
                    clear hcc hlo9 HJZ
                    go_wp2_with fail
                    go_loopw [121] (fun vi wy => ∃ (j : Nat), j ≤ t2.act.length ∧ vi = .int .i64 j ∧ JoAt w wy b m va2 vo2 t2 cc S' (k + 1) ∧ OwnJ wy lo9 (.slice aa t2.act.length ca) t2.act) (fun i _ => t2.act.length - (intOf i).toNat)
                    case atStart => exact ⟨0, Nat.zero_le _, rfl, HJA.out, HOA.out⟩
                    case round =>
                      obtain ⟨j, hj, rfl, hjz, hoz⟩ := hrel
                      obtain ⟨wz, hwz⟩ : ∃ wz, wz = wr := ⟨_, rfl⟩
                      subst hwz
                      have HJZ := hid hjz
                      have HOZ := hid hoz
                      clear hjz hoz
                      by_cases hjl : j < t2.act.length
                      · have hji : (j : Int) < (t2.act.length : Int) := by omega
                        obtain ⟨x, hx⟩ : ∃ x, t2.act[j]? = some x := ⟨_, List.getElem?_eq_getElem hjl⟩
                        obtain ⟨jb, jo, jc, ev, hjc1, hjc2, hjb, i0, i1, i2, i3, i4, i5⟩ := (OwnJ.rd HOZ.out).item hx
                        simp only [Value.slice.injEq] at ev
                        obtain ⟨rfl, -, rfl⟩ := ev
                        have HXM9 := hid (List.mem_of_getElem? hx)
                        obtain ⟨w9, hw9⟩ : ∃ w9, w9 = wz.alloc (.cells #[.int .u32 (x.1 : Int), .int .u8 (x.2.1 : Int), .int .i64 x.2.2.1, .int .i64 x.2.2.2.1, .int .u8 (x.2.2.2.2.1 : Int), .int .i64 x.2.2.2.2.2] 44) := ⟨_, rfl⟩
                        have hb9 : Below wz.heap.size wz w9 := by rw [hw9]; exact (Below.refl _ _).alloc (Nat.le_refl _) _
                        have hx9 : w9.heap[wz.heap.size]? = some (.cells #[.int .u32 (x.1 : Int), .int .u8 (x.2.1 : Int), .int .i64 x.2.2.1, .int .i64 x.2.2.2.1, .int .u8 (x.2.2.2.2.1 : Int), .int .i64 x.2.2.2.2.2] 44 (0, 0)) := by rw [hw9]; exact heap_alloc_new wz _
                        have b0 : w9.cell? ⟨wz.heap.size, 0, none⟩ = some (.int .u32 (x.1 : Int)) := (cell_of_row _ _ _ _ _ _ hx9).trans rfl
                        have HJ9 := hid (HJZ.out.below hb9)
                        have HO9 := hid (owns_below HOZ.out hb9)
                        have hxl : x.1 ≤ t2.last := HJZ.out.ok.le x HXM9.out
                        have hxN : ¬ N1 ≤ x.1 := by have := HN2.out; omega
                        have hxD : decide ((x.1 : Int) ≥ (N1 : Int)) = false := decide_eq_false (by omega)
                        have HWF := hid (show (Lit.int .u32 (x.1 : Int)).wf = true from (Lit.wf_int_iff _ _).2 ⟨by show (0 : Int) ≤ _; omega, by have := HJZ.out.last; show _ ≤ (4294967295 : Int); omega⟩)
                        have HST := hid HJ9.out.set
                        have HSF := hid (show S' (x.1 : Int) = false from by
                          cases hS : S' (x.1 : Int) with
                          | false => rfl
                          | true => exact absurd rfl ((HJZ.out.gone x.1 (by have := HJZ.out.last; omega) hS).2 x HXM9.out))
                        clear hx hb9 hx9 hxl
                        go_upto_region 28 with fail
                        rw [← hw9]
                        clear hw9 i0 i1 i2 i3 i4 i5
                        go_wp2_with (at_lookup; (refine set_look rfl (.tmp 125) (.tmp 127) 29 30 4 .u32 rfl Try.underlying29 Try.underlying30 Try.underlying4 (zeroB _) _ _ _ _ rfl rfl HWF.out HST.out ?_); rw [HSF.out])
                        go_roundw
                        case rel => exact ⟨j + 1, hjl, by go_num, HJ9.out, HO9.out⟩
                        case measure => simp [intOf]; omega
                      · have hji : ¬ (j : Int) < (t2.act.length : Int) := by omega
                        go_wp2_with fail
                        go_roundw
                        case rel => exact ⟨k + 1, _, _, t2, cc, S', hlt, by have := HWK.out; omega, by go_num, by rw [HN2.out], HJZ.out⟩
                        case measure => simp [intOf]; omega
              · have hdi : decide ((d : Int) = 4) = false := decide_eq_false (by omega)
                have hdb : ((d : Int) == 4) = false := by simp; omega
                have HN2 := hid HN1.out.symm
                go_wp2_with fail
                refine (jover_any w7 b b _ _ t1 HJ7.out.tb).mono ?_
                rintro e w8 ⟨v8, rfl, ho8, hb8⟩
                have HJ8 := hid (HJ7.out.below hb8)
                have HO8 := hid ho8
                obtain ⟨ao, co, rfl, -, -⟩ := owns_slice ho8
                obtain ⟨lo8, hlo8⟩ : ∃ lo8, lo8 = w7.heap.size := ⟨_, rfl⟩
                have HM8 := hid (show m < lo8 by rw [hlo8]; exact HJ7.out.set.lt)
                rw [← hlo8] at HO8
                have hov := HJ8.out.ok.o64
                clear ho8 hb8 hlo8
                go_wp2_with fail
                go_loopw [110] (fun vi wz => ∃ (j : Nat) (S' : Int → Bool), j ≤ t1.over.length ∧ vi = .int .i64 j ∧ JoAt w wz b m va2 vo2 t1 (c + j) S' (k + 1) ∧ OwnJ wz lo8 (.slice ao t1.over.length co) t1.over) (fun i _ => t1.over.length - (intOf i).toNat)
                case atStart => exact ⟨0, S, Nat.zero_le _, rfl, HJ8.out, HO8.out⟩
                case round =>
                  obtain ⟨j, S', hj, rfl, hjz, hoz⟩ := hrel
                  obtain ⟨wz, hwz⟩ : ∃ wz, wz = wr := ⟨_, rfl⟩
                  subst hwz
                  have HJZ := hid hjz
                  have HOZ := hid hoz
                  clear hjz hoz
                  by_cases hjl : j < t1.over.length
                  · have hji : (j : Int) < (t1.over.length : Int) := by omega
                    obtain ⟨x, hx⟩ : ∃ x, t1.over[j]? = some x := ⟨_, List.getElem?_eq_getElem hjl⟩
                    obtain ⟨jb, jo, jc, ev, hjc1, hjc2, hjb, i0, i1, i2, i3, i4, i5⟩ := (OwnJ.rd HOZ.out).item hx
                    simp only [Value.slice.injEq] at ev
                    obtain ⟨rfl, -, rfl⟩ := ev
                    have HXM9 := hid (List.mem_of_getElem? hx)
                    obtain ⟨w9, hw9⟩ : ∃ w9, w9 = wz.alloc (.cells #[.int .u32 (x.1 : Int), .int .u8 (x.2.1 : Int), .int .i64 x.2.2.1, .int .i64 x.2.2.2.1, .int .u8 (x.2.2.2.2.1 : Int), .int .i64 x.2.2.2.2.2] 44) := ⟨_, rfl⟩
                    have hb9 : Below wz.heap.size wz w9 := by rw [hw9]; exact (Below.refl _ _).alloc (Nat.le_refl _) _
                    have hx9 : w9.heap[wz.heap.size]? = some (.cells #[.int .u32 (x.1 : Int), .int .u8 (x.2.1 : Int), .int .i64 x.2.2.1, .int .i64 x.2.2.2.1, .int .u8 (x.2.2.2.2.1 : Int), .int .i64 x.2.2.2.2.2] 44 (0, 0)) := by rw [hw9]; exact heap_alloc_new wz _
                    have b0 : w9.cell? ⟨wz.heap.size, 0, none⟩ = some (.int .u32 (x.1 : Int)) := (cell_of_row _ _ _ _ _ _ hx9).trans rfl
                    have HJ9 := hid (HJZ.out.below hb9)
                    have HO9 := hid (owns_below HOZ.out hb9)
                    have HWF := hid (show (Lit.int .u32 (x.1 : Int)).wf = true from (Lit.wf_int_iff _ _).2 ⟨by show (0 : Int) ≤ _; omega, by have := HJZ.out.ok.ole x HXM9.out; have := HJZ.out.last; show _ ≤ (4294967295 : Int); omega⟩)
                    have HST := hid HJ9.out.set
                    have HCB := hid (show c + j + 1 ≤ 64 * (k + 1) by have := HC0.out; omega)
                    have HMX := hid (show c + j < maxLen by unfold maxLen; have := HCB.out; omega)
                    clear hx hb9 hx9
                    go_upto_region 23 with fail
                    rw [← hw9]
                    clear hw9 i0 i1 i2 i3 i4 i5
                    go_wp2_with (at_mapUpdate; (refine set_put rfl (.tmp 114) (.tmp 116) _ 29 30 4 .u32 rfl Try.underlying29 Try.underlying30 Try.underlying4 _ _ _ _ true rfl rfl rfl HWF.out HST.out HMX.out ?_); intro wx hSx2 hgx; have HJX := hid (HJ9.out.put HXM9.out hSx2 hgx HCB.out); have HOX := hid (own_kg HO9.out hgx HM8.out); clear hSx2 hgx)
                    go_roundw
                    case rel => exact ⟨j + 1, _, hjl, by go_num, HJX.out, HOX.out⟩
                    case measure => simp [intOf]; omega
                  · have hji : ¬ (j : Int) < (t1.over.length : Int) := by omega
                    clear HO8 HOZ
                    go_wp2_with fail
                    refine (jactive_any wz b b _ _ t1 HJZ.out.tb).mono ?_
                    rintro e w8' ⟨v8, rfl, ho8, hb8⟩
                    have HJA := hid (HJZ.out.below hb8)
                    have HOA := hid ho8
                    obtain ⟨aa, ca, rfl, -, -⟩ := owns_slice ho8
                    have hac := HJA.out.ok.a64
                    clear ho8 hb8
                    obtain ⟨cc, hcc⟩ : ∃ cc, cc = c + j := ⟨_, rfl⟩
                    rw [← hcc] at HJA
                    obtain ⟨lo9, hlo9⟩ : ∃ lo9, lo9 = wz.heap.size := ⟨_, rfl⟩
                    rw [← hlo9] at HOA
                    clear hcc hlo9 HJZ
                    go_wp2_with fail
                    go_loopw [121] (fun vi wy => ∃ (j : Nat), j ≤ t1.act.length ∧ vi = .int .i64 j ∧ JoAt w wy b m va2 vo2 t1 cc S' (k + 1) ∧ OwnJ wy lo9 (.slice aa t1.act.length ca) t1.act) (fun i _ => t1.act.length - (intOf i).toNat)
                    case atStart => exact ⟨0, Nat.zero_le _, rfl, HJA.out, HOA.out⟩
                    case round =>
                      obtain ⟨j, hj, rfl, hjz, hoz⟩ := hrel
                      obtain ⟨wz, hwz⟩ : ∃ wz, wz = wr := ⟨_, rfl⟩
                      subst hwz
                      have HJZ := hid hjz
                      have HOZ := hid hoz
                      clear hjz hoz
                      by_cases hjl : j < t1.act.length
                      · have hji : (j : Int) < (t1.act.length : Int) := by omega
                        obtain ⟨x, hx⟩ : ∃ x, t1.act[j]? = some x := ⟨_, List.getElem?_eq_getElem hjl⟩
                        obtain ⟨jb, jo, jc, ev, hjc1, hjc2, hjb, i0, i1, i2, i3, i4, i5⟩ := (OwnJ.rd HOZ.out).item hx
                        simp only [Value.slice.injEq] at ev
                        obtain ⟨rfl, -, rfl⟩ := ev
                        have HXM9 := hid (List.mem_of_getElem? hx)
                        obtain ⟨w9, hw9⟩ : ∃ w9, w9 = wz.alloc (.cells #[.int .u32 (x.1 : Int), .int .u8 (x.2.1 : Int), .int .i64 x.2.2.1, .int .i64 x.2.2.2.1, .int .u8 (x.2.2.2.2.1 : Int), .int .i64 x.2.2.2.2.2] 44) := ⟨_, rfl⟩
                        have hb9 : Below wz.heap.size wz w9 := by rw [hw9]; exact (Below.refl _ _).alloc (Nat.le_refl _) _
                        have hx9 : w9.heap[wz.heap.size]? = some (.cells #[.int .u32 (x.1 : Int), .int .u8 (x.2.1 : Int), .int .i64 x.2.2.1, .int .i64 x.2.2.2.1, .int .u8 (x.2.2.2.2.1 : Int), .int .i64 x.2.2.2.2.2] 44 (0, 0)) := by rw [hw9]; exact heap_alloc_new wz _
                        have b0 : w9.cell? ⟨wz.heap.size, 0, none⟩ = some (.int .u32 (x.1 : Int)) := (cell_of_row _ _ _ _ _ _ hx9).trans rfl
                        have HJ9 := hid (HJZ.out.below hb9)
                        have HO9 := hid (owns_below HOZ.out hb9)
                        have hxl : x.1 ≤ t1.last := HJZ.out.ok.le x HXM9.out
                        have hxN : ¬ N1 ≤ x.1 := by have := HN2.out; omega
                        have hxD : decide ((x.1 : Int) ≥ (N1 : Int)) = false := decide_eq_false (by omega)
                        have HWF := hid (show (Lit.int .u32 (x.1 : Int)).wf = true from (Lit.wf_int_iff _ _).2 ⟨by show (0 : Int) ≤ _; omega, by have := HJZ.out.last; show _ ≤ (4294967295 : Int); omega⟩)
                        have HST := hid HJ9.out.set
                        have HSF := hid (show S' (x.1 : Int) = false from by
                          cases hS : S' (x.1 : Int) with
                          | false => rfl
                          | true => exact absurd rfl ((HJZ.out.gone x.1 (by have := HJZ.out.last; omega) hS).2 x HXM9.out))
                        clear hx hb9 hx9 hxl
                        go_upto_region 28 with fail
                        rw [← hw9]
                        clear hw9 i0 i1 i2 i3 i4 i5
                        go_wp2_with (at_lookup; (refine set_look rfl (.tmp 125) (.tmp 127) 29 30 4 .u32 rfl Try.underlying29 Try.underlying30 Try.underlying4 (zeroB _) _ _ _ _ rfl rfl HWF.out HST.out ?_); rw [HSF.out])
                        go_roundw
                        case rel => exact ⟨j + 1, hjl, by go_num, HJ9.out, HO9.out⟩
                        case measure => simp [intOf]; omega
                      · have hji : ¬ (j : Int) < (t1.act.length : Int) := by omega
                        go_wp2_with fail
                        go_roundw
                        case rel => exact ⟨k + 1, _, _, t1, cc, S', hlt, by have := HWK.out; omega, by go_num, by rw [HN2.out], HJZ.out⟩
                        case measure => simp [intOf]; omega
      · have hk6 : decide ((k : Int) ≥ 60) = true := decide_eq_true (by omega)
        go_wp2_with fail
        rw [← hwm]
        go_ret
        exact ⟨rfl, hBW.out.trans (HBM.out.mono hBW.out.size)⟩
    · have hki : ¬ (k : Int) < (len0 : Int) := by omega
      go_wp2_with fail
      go_ret
      exact ⟨rfl, hBW.out⟩

/-! ### THE ROW's STEP -/
set_option maxRecDepth 100000 in
theorem lifted (os : Os) (started : os.Started) (H : Type) (enc : TypeId × Value → H) :
    ReturnsInHanded {} Try.checked os 3 .any (Rows.jobsOnceSpec.pre6 enc Try.prog Try.f3 Rows.jobsOnceRow.domain false) (Rows.jobsOnceSpec.post enc Try.prog Try.f3 false true false false) := by
  refine returnsInHanded_of_change (C := Try.checked) own started (by kernel_rfl) Try.func3
    (ChangeSpec.witness6 (enc := enc) (C := Try.checked) false ⟨#[], #[.slice none 0 0, .slice none 0 0], []⟩ 8 (by kernel_rfl) (by kernel_rfl) (by kernel_rfl) (by kernel_rfl)) ?_
  intro W base args ds gs before hval0 hW hcnd _
  have hval : ∀ (j : Nat) t v, Try.f3.params[j]? = some t → args[j]? = some v → Value.okWide Try.prog W .any base t v := hval0
  have hW' := hW
  obtain ⟨p, q, hA0, hV, rfl, hfz, hnd⟩ := hW
  have hA : DataW.TrodAll enc Try.prog W 0 (fun _ => true) true Try.f3.params.toList args.toList ds p := hA0
  rw [Try.params3] at hA hval
  obtain ⟨v0, vs0, d0, ds0, p0, q0, hargs, rfl, rfl, h0, r0⟩ := trodAll_cons hA
  obtain ⟨v1, vs1, d1, ds1, p1, q1, rfl, rfl, rfl, h1, r1⟩ := trodAll_cons r0
  obtain ⟨rfl, rfl, rfl⟩ := trodAll_nil r1
  obtain rfl : args = #[v0, v1] := by cases args; simp_all
  obtain ⟨rfl, rfl⟩ := trodVars_none hV
  have k0 := h0
  have lt0 : ∀ x ∈ p0, x.block < W.heap.size := by obtain ⟨m, hm⟩ := k0; exact DataW.trod_lt m _ _ _ hm
  have k1 := h1
  have lt1 : ∀ x ∈ p1, x.block < W.heap.size := by obtain ⟨m, hm⟩ := k1; exact DataW.trod_lt m _ _ _ hm
  obtain ⟨a0, len0, cap0, rfl⟩ := okWide_slice Try.underlying22 (hval 0 22 v0 rfl rfl)
  have w0 : IsOps16 W a0 len0 cap0 := isOps16_of h0
  obtain ⟨a1, len1, cap1, rfl⟩ := okWide_slice Try.underlying23 (hval 1 23 v1 rfl rfl)
  have w1 : IsBools W a1 len1 cap1 := isBools_of h1
  clear hA0 hval0
  refine (walk a0 len0 cap0 a1 len1 cap1 W w0 w1).mono fun e W' ⟨he, bel⟩ => ?_
  subst he
  exact ⟨_, rfl, _, _, _, [], _, [], hW', trodAll_mk1 (shut_bool Try.underlying4 _), (trodAll_cons_mk (Below.trod laidOut (by kernel_rfl) (of_decide_eq_true (by kernel_rfl)) k0 bel lt0) (trodAll_cons_mk (Below.trod laidOut (by kernel_rfl) (of_decide_eq_true (by kernel_rfl)) k1 bel lt1) trodAll_mk0)), rfl, bel.frame _, fun h => by cases h⟩

theorem over : Rows.jobsOnceRow.holds Try.pinned (OpenSpec.ofChange Rows.jobsOnceSpec) :=
  OpenClaim.holds_of_wide 3 Try.f3 rfl rfl rfl rfl rfl rfl rfl ⟨rfl, rfl, rfl, rfl, rfl⟩ rfl rfl rfl rfl rfl (by kernel_rfl) Try.func3 (by kernel_rfl)
    (of_decide_eq_true (by kernel_rfl)) (by unfold Func.isWrapper; first | (rw [if_pos (by decide +kernel)]; kernel_rfl) | (rw [if_neg (by decide +kernel)]; exact ⟨rfl, rfl⟩))
    (fun os started H enc _ => lifted os started H enc)

/-- THE STATEMENT -/
theorem jobsOnce_holds : Rows.JobsOnceSaid := over
#print axioms jobsOnce_holds
end Go.Proofs.Ytahiaifdfgkemaa.jobsOnce
