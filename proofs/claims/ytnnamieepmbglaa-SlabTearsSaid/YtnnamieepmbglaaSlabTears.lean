/-
  Of one write, torn anywhere, each byte is the old one or the new one: the new ones on one side, the old ones on the other.
  (The frame behind the walk is the guide's shell, at these parameters.)
-/
import Derived.Test.YtnnamieepmbglaaRows
import Derived.WalkKit
import Derived.Test.YtnnamieepmbglaaAwake5
import Derived.Test.YtnnamieepmbglaaAppG
import Derived.Test.YtnnamieepmbglaaSame
import Derived.ProofKit
import Derived.Deep.Cut
import Derived.OpenShut
import Derived.ShutString
import Derived.ChangeOld
import Derived.Below
namespace Go.Proofs.Ytnnamieepmbglaa.slabTears
open Go.ChangeShapes Go.WideShapes Go.ChangeAt Go.RowKit
open Go.ChangeMaps (open_string shut_string)
set_option linter.unusedVariables false

theorem own : ownKnob Try.prog.godebug = none := by kernel_rfl
theorem laidOut : laidOutB Try.prog = true := by kernel_rfl


theorem mn128 (L K : Nat) (hK : K = min L 128) : (if (128 : Int) < (L : Int) then (128 : Int) else (L : Int)) = (K : Int) := by
  subst hK
  split <;> omega

/-- The law's slab, step by step. -/
def tw (l : List UInt8) : Sl := ((Sl.new 1).write 0 l).1

theorem new1 : (Sl.new 1).n = 1 ∧ (Sl.new 1).now.length = 128 ∧ (Sl.new 1).done.length = 128 ∧ (Sl.new 1).off = false ∧ (Sl.new 1).armed = 0 ∧ (Sl.new 1).way = [] ∧ (Sl.new 1).steps = 0 := by decide +kernel

theorem write_run (s : Sl) (p : List UInt8) (hn : s.n = 1) (hl : p.length ≤ 128) (ho : s.off = false) (ha : s.armed = 0) (hs : s.now.length = 128) :
    s.write 0 p = ({ s with now := pad p, way := s.way ++ [(0, pad p)], steps := s.steps + 1 }, 0) := by
  have h1 : ¬ (s.has 0 = false) := by simp [Sl.has, hn]
  unfold Sl.write
  rw [if_neg h1, if_neg (by omega), if_neg (by simp [ho])]
  have hd : s.now.drop 128 = [] := List.drop_eq_nil_of_le (by omega)
  simp [Sl.put, Sl.step, Sl.stepE, ha, hd, ho]

theorem sect1 (l : List UInt8) (h : l.length = 128) : sect l 0 = l := by
  unfold sect
  simp
  exact List.take_of_length_le (by omega)

theorem flush_run (s : Sl) (q : List UInt8) (hd : s.done.length = 128) (hn : s.now.length = 128) (ho : s.off = false) (ha : s.armed = 0) (hw : s.way = [(0, q)]) :
    s.flushed = ({ s with done := s.now, way := [], steps := s.steps + 1 }, 0) := by
  unfold Sl.flushed
  rw [if_neg (by simp [ho]), if_neg (by omega)]
  have h0 : s.done.drop 128 = [] := List.drop_eq_nil_of_le (by omega)
  simp [Sl.step, Sl.flush, ha, ho, hw, doneAll, doneOne, sect1 _ hn, h0]

def t1 (p : List UInt8) : Sl := ((Sl.new 1).write 0 p).1
def t2 (p : List UInt8) : Sl := (t1 p).flushed.1
def t3 (p q : List UInt8) : Sl := ((t2 p).write 0 q).1
def t4 (p q : List UInt8) (fate : UInt8) (cut : Int) : Sl := (t3 p q).crash [fate] cut

theorem tears_all (p q : List UInt8) (fate : UInt8) (cut : Int) (hp : p.length ≤ 128) (hq : q.length ≤ 128) :
    ((Sl.new 1).write 0 p).2 = 0 ∧ (t1 p).flushed.2 = 0 ∧ ((t2 p).write 0 q).2 = 0 ∧
    (t4 p q fate cut).read 0 = (splice (pad p) (keptFrom (fate.toNat % 4) (cutOf cut)) (((pad q).drop (keptFrom (fate.toNat % 4) (cutOf cut))).take (keptUpto (fate.toNat % 4) (cutOf cut) - keptFrom (fate.toNat % 4) (cutOf cut))), 0) ∧
    (t1 p).steps ≤ 1000000 ∧ (t2 p).steps ≤ 1000000 ∧ (Sl.new 1).steps ≤ 1000000 ∧ (Sl.new 1).way.length < 1000000 ∧ (t2 p).way.length < 1000000 := by
  obtain ⟨n1, n2, n3, n4, n5, n6, n7⟩ := new1
  have e1 := write_run (Sl.new 1) p n1 hp n4 n5 n2
  have hpp := pad_length p hp
  have hpq := pad_length q hq
  have d1 : t1 p = _ := congrArg Prod.fst e1
  have e2 := flush_run (t1 p) (pad p) (by rw [d1]; exact n3) (by rw [d1]; exact hpp) (by rw [d1]; exact n4) (by rw [d1]; exact n5) (by rw [d1]; simp [n6])
  have d2 : t2 p = _ := congrArg Prod.fst e2
  have e3 := write_run (t2 p) q (by rw [d2, d1]; exact n1) hq (by rw [d2, d1]; exact n4) (by rw [d2, d1]; exact n5) (by rw [d2, d1]; exact hpp)
  have d3 : t3 p q = _ := congrArg Prod.fst e3
  have hw : (t3 p q).way = [(0, pad q)] := by rw [d3, d2]; simp
  have hnow : (t3 p q).now = pad q := by rw [d3]
  have hdone : (t3 p q).done = pad p := by rw [d3, d2, d1]
  have hn3 : (t3 p q).n = 1 := by rw [d3, d2, d1]; exact n1
  refine ⟨by rw [e1], by rw [e2], by rw [e3], ?_, by rw [d1]; simp [n7], by rw [d2, d1]; simp [n7], by rw [n7]; omega, by rw [n6]; simp, by rw [d2]; simp⟩
  have hk := kept_le (fate.toNat % 4) (cutOf cut) (cutOf_le cut)
  have hf : fateOf [fate] 0 = fate.toNat % 4 := by simp [fateOf]
  have hD : crashUpto [fate] (cutOf cut) (t3 p q).way (t3 p q).done (t3 p q).way.length = splice (pad p) (keptFrom (fate.toNat % 4) (cutOf cut)) (((pad q).drop (keptFrom (fate.toNat % 4) (cutOf cut))).take (keptUpto (fate.toNat % 4) (cutOf cut) - keptFrom (fate.toNat % 4) (cutOf cut))) := by
    rw [hw, hdone, List.length_singleton, crashUpto_succ]
    unfold crashAt crashOne
    rw [hf]
    simp [crashUpto]
  obtain ⟨X, hX⟩ : ∃ X, X = splice (pad p) (keptFrom (fate.toNat % 4) (cutOf cut)) (((pad q).drop (keptFrom (fate.toNat % 4) (cutOf cut))).take (keptUpto (fate.toNat % 4) (cutOf cut) - keptFrom (fate.toNat % 4) (cutOf cut))) := ⟨_, rfl⟩
  have hXl : X.length = 128 := by
    rw [hX, splice_length _ _ _ (by rw [List.length_take, List.length_drop]; omega)]
    exact hpp
  rw [← hX] at hD ⊢
  have h0 : (pad q).drop 128 = [] := List.drop_eq_nil_of_le (by omega)
  have hr : (t4 p q fate cut).now = X := by
    unfold t4 Sl.crash
    simp only
    rw [hD, hnow, hw]
    simp [doneAll, doneOne, sect1 _ hXl, h0]
  unfold Sl.read
  rw [if_neg (by simp [Sl.has, t4, Sl.crash, hn3]), if_neg (by simp [t4, Sl.crash])]
  rw [hr]
  simp [sect1 _ hXl]

/-- The four fates. -/
theorem mix0 (a b : List UInt8) (k : Nat) : splice a (keptFrom 0 k) ((b.drop (keptFrom 0 k)).take (keptUpto 0 k - keptFrom 0 k)) = a := by simp [keptFrom, keptUpto, splice]
theorem mix1 (a b : List UInt8) (k : Nat) (ha : a.length = 128) (hb : b.length = 128) : splice a (keptFrom 1 k) ((b.drop (keptFrom 1 k)).take (keptUpto 1 k - keptFrom 1 k)) = b := by
  simp [keptFrom, keptUpto, splice]
  rw [List.take_of_length_le (by omega), List.drop_eq_nil_of_le (by omega)]
  simp
theorem mix2 (a b : List UInt8) (k : Nat) (ha : a.length = 128) (hb : b.length = 128) (hk : k ≤ 128) : splice a (keptFrom 2 k) ((b.drop (keptFrom 2 k)).take (keptUpto 2 k - keptFrom 2 k)) = b.take k ++ a.drop k := by
  simp [keptFrom, keptUpto, splice]
  omega
theorem mix3 (a b : List UInt8) (k : Nat) (ha : a.length = 128) (hb : b.length = 128) (hk : k ≤ 128) : splice a (keptFrom 3 k) ((b.drop (keptFrom 3 k)).take (keptUpto 3 k - keptFrom 3 k)) = a.take k ++ b.drop k := by
  show splice a k ((b.drop k).take (128 - k)) = _
  rw [List.take_of_length_le (by rw [List.length_drop]; omega)]
  unfold splice
  have h0 : a.drop (k + (b.drop k).length) = [] := List.drop_eq_nil_of_le (by rw [List.length_drop]; omega)
  rw [h0]
  simp

theorem u8_of {z : Int} (h : (Lit.int .u8 z).wf = true) : ∃ f : UInt8, z = (f.toNat : Int) ∧ True := by
  have hz : 0 ≤ z ∧ z ≤ 255 := by simp [Lit.wf] at h; exact h
  refine ⟨UInt8.ofNat z.toNat, ?_, trivial⟩
  rw [UInt8.toNat_ofNat']
  omega

theorem own_head {w : World} {base : Nat} {a : Option Addr} {n c : Nat} {l : List UInt8} (h : Own w base (.slice a n c) l) (h0 : 0 < l.length) : ∃ g c', Value.slice a n c = .slice (some ⟨g, 0, none⟩) n c' := by
  rcases h.shape with ⟨_, rfl⟩ | ⟨g, cap, e, _⟩
  · cases h0
  · simp only [Value.slice.injEq] at e
    obtain ⟨rfl, rfl, rfl⟩ := e
    exact ⟨g, c, rfl⟩

theorem rd_take {w : World} {a : Option Addr} {n c : Nat} {l : List UInt8} (h : Rd w (.slice a n c) l) (k : Nat) (hk : k ≤ l.length) : Rd w (.slice a k c) (l.take k) := by
  obtain ⟨a', c', e, h1, h2, h3, h4⟩ := h
  simp only [Value.slice.injEq] at e
  obtain ⟨rfl, rfl, rfl⟩ := e
  refine ⟨a, c, by rw [List.length_take, Nat.min_eq_left hk], by rw [List.length_take]; omega, h2, h3, fun x hx j hj => ?_⟩
  rw [List.length_take] at hj
  rw [h4 x hx j (by omega)]
  simp only [List.getD_eq_getElem?_getD]
  rw [List.getElem?_take_of_lt (by omega)]

theorem rd_drop {w : World} {g n c : Nat} {l : List UInt8} (h : Rd w (.slice (some ⟨g, 0, none⟩) n c) l) (k : Nat) (hk : k ≤ l.length) (A : Option Addr) (hA1 : c = k → A = some ⟨g, 0, none⟩) (hA2 : ¬ c = k → A = some ⟨g, k, none⟩) : Rd w (.slice A (n - k) (c - k)) (l.drop k) := by
  obtain ⟨a', c', e, h1, h2, h3, h4⟩ := h
  simp only [Value.slice.injEq] at e
  obtain ⟨rfl, rfl, rfl⟩ := e
  refine ⟨A, c - k, by rw [List.length_drop], by rw [List.length_drop]; omega, (by omega), (fun hn => ?_), fun x hx j hj => ?_⟩
  · by_cases hc : c = k
    · rw [hA1 hc] at hn; cases hn
    · rw [hA2 hc] at hn; cases hn
  · rw [List.length_drop] at hj
    rw [hA2 (by omega)] at hx
    cases hx
    have := h4 _ rfl (k + j) (by omega)
    rw [Addr.add_lit, Nat.zero_add] at this
    rw [Addr.add_lit, this]
    simp only [List.getD_eq_getElem?_getD, List.getElem?_drop]

set_option maxRecDepth 100000 in
set_option maxHeartbeats 4000000 in
theorem tears_some (A1 A2 : Option Addr) (L1 C1 K1 L2 C2 K2 : Nat) (p q : List UInt8) (fate : UInt8) (cut : Int) (w : World) (h1 : L1 ≤ C1) (h2 : C1 ≤ 9223372036854775807) (hK1 : K1 = min L1 128) (h3 : L2 ≤ C2) (h4 : C2 ≤ 9223372036854775807) (hK2 : K2 = min L2 128)
    (hp : Rd w (.slice A1 K1 C1) p) (hpl : p.length = K1) (hq : Rd w (.slice A2 K2 C2) q) (hql : q.length = K2) (fz : Int) (hfz : fz = (fate.toNat : Int)) :
    Calls Try.prog 4 #[.slice A1 L1 C1, .slice A2 L2 C2, .int .u8 fz, .int .i64 cut] w fun e w' => e = .returned (.bool true) ∧ Below w.heap.size w w' := by
  have m1 := mn128 L1 K1 hK1
  have m3 := mn128 L2 K2 hK2
  have j1 : K1 ≤ C1 := by omega
  have j2 : K2 ≤ C2 := by omega
  have i1 : (K1 : Int) ≤ (C1 : Int) := by omega
  have i2 : (K2 : Int) ≤ (C2 : Int) := by omega
  have l1 : K1 ≤ 128 := by omega
  have l2 : K2 ≤ 128 := by omega
  have HP := hid hp
  have HQ := hid hq
  have HPL := hid hpl
  have HQL := hid hql
  obtain ⟨r1, r2, r3, r4, r5, r6, r7, r8, r9⟩ := tears_all p q fate cut (by omega) (by omega)
  have R1 := hid r1
  have R2 := hid r2
  have R3 := hid r3
  obtain ⟨X, hX⟩ : ∃ X, X = splice (pad p) (keptFrom (fate.toNat % 4) (cutOf cut)) (((pad q).drop (keptFrom (fate.toNat % 4) (cutOf cut))).take (keptUpto (fate.toNat % 4) (cutOf cut) - keptFrom (fate.toNat % 4) (cutOf cut))) := ⟨_, rfl⟩
  rw [← hX] at r4
  have R4 := hid r4
  have HXX := hid hX
  subst hfz
  clear hp hq hpl hql hK1 hK2 r1 r2 r3 r4 hX
  go_enter Try.func4, Try.ntmps4
  go_wp2_with fail
  refine (awake5_any w).mono ?_
  rintro e wa ⟨rfl, hba⟩
  have HBA := hid hba
  have hsa := hba.size
  clear hba
  go_wp2_with fail
  go_region
  go_wp2_with fail
  refine (new_yes 1 wa.drew (by omega) (by omega)).mono ?_
  rintro e w1 ⟨b, bn, bd, rfl, n1, hb1⟩
  have H1 := hid (show SlabAt w1 wa.heap.size b bn bd (.slice none 0 0) (Sl.new 1) from n1)
  have B1 := hid (show Below wa.heap.size wa w1 from ((Below.refl _ wa).drew).trans hb1)
  have hs1 := B1.out.size
  clear n1 hb1
  have HPa := hid (HP.out.below HBA.out)
  have HQa := hid (HQ.out.below HBA.out)
  have HO2 := hid (Own.empty w1 w1.heap.size (Nat.le_refl _))
  have HR2 := hid ((HPa.out.below B1.out).alloc (.cells #[] 5))
  go_wp2_with (first | (at_builtin; (refine appw (by rfl) (.tmp 36) (.tmp 37) rfl w1.heap.size (.slice (some ⟨w1.heap.size, 0, none⟩) 0 0) _ [] p p K1 rfl rfl HO2.out HR2.out (by have := HPL.out; simp; omega) rfl (by have := HPL.out; simp; omega) (by simp) ?_); intro ad2 cp2 w2 ho2 hg2) | fail)
  have HN2 := hid (((Below.refl w1.heap.size w1).alloc (Nat.le_refl _) (.cells #[] 5)).grown hg2 (by simp) (fun k hk => by have : w1.heap.size = k := Option.some.inj hk; omega))
  have hs2 := HN2.out.size
  have H2 := hid (H1.out.below HN2.out)
  have B2 := hid (B1.out.trans ((HN2.out).mono (by omega)))
  have Q2 := hid ho2
  clear ho2 hg2
  refine (write_all wa.heap.size b bn bd _ (Sl.new 1) 0 _ p _ H2.out r7 r8 Q2.out.rd).mono ?_
  rintro e w3 ⟨wv3, rfl, h3, hk3⟩
  rw [R1.out]
  have H3 := hid (show SlabAt w3 wa.heap.size b bn bd wv3 (t1 p) from h3)
  have HK3 := hid (H2.out.keep hk3)
  have B3 := hid ((B2.out).trans HK3.out)
  have hs3 := hk3.size
  clear h3 hk3
  go_wp2_with fail
  refine (flush_all wa.heap.size b bn bd _ (t1 p) w3 H3.out r5).mono ?_
  rintro e w4 ⟨wv4, rfl, h4, hk4⟩
  rw [R2.out]
  have H4 := hid (show SlabAt w4 wa.heap.size b bn bd wv4 (t2 p) from h4)
  have B4 := hid (B3.out.trans (H3.out.keep hk4))
  have hs4 := hk4.size
  clear h4 hk4
  have HO5 := hid (Own.empty w4 w4.heap.size (Nat.le_refl _))
  have HR5 := hid ((HQa.out.below B4.out).alloc (.cells #[] 5))
  go_wp2_with (first | (at_builtin; (refine appw (by rfl) (.tmp 49) (.tmp 50) rfl w4.heap.size (.slice (some ⟨w4.heap.size, 0, none⟩) 0 0) _ [] q q K2 rfl rfl HO5.out HR5.out (by have := HQL.out; simp; omega) rfl (by have := HQL.out; simp; omega) (by simp) ?_); intro ad5 cp5 w5 ho5 hg5) | fail)
  have HN5 := hid (((Below.refl w4.heap.size w4).alloc (Nat.le_refl _) (.cells #[] 5)).grown hg5 (by simp) (fun k hk => by have : w4.heap.size = k := Option.some.inj hk; omega))
  have hs5 := HN5.out.size
  have H5 := hid (H4.out.below HN5.out)
  have B5 := hid (B4.out.trans ((HN5.out).mono (by omega)))
  have Q5 := hid ho5
  clear ho5 hg5
  refine (write_all wa.heap.size b bn bd _ (t2 p) 0 _ q _ H5.out r6 r9 Q5.out.rd).mono ?_
  rintro e w6 ⟨wv6, rfl, h6, hk6⟩
  rw [R3.out]
  have H6 := hid (show SlabAt w6 wa.heap.size b bn bd wv6 (t3 p q) from h6)
  have HK6 := hid (H5.out.keep hk6)
  have B6 := hid ((B5.out).trans HK6.out)
  have hs6 := hk6.size
  clear h6 hk6
  go_wp2_with fail
  refine (crash_all wa.heap.size b bn bd _ (t3 p q) _ [fate] cut _ (H6.out.below ((Below.refl _ _).alloc (Nat.le_refl _) _)) (Rd.one w6 _ fate rfl) (fun k hk => by have : w6.heap.size = k := Option.some.inj hk; have := H6.out.size; omega)).mono ?_
  rintro e w7 ⟨rfl, h7, hk7⟩
  have H7 := hid (show SlabAt w7 wa.heap.size b bn bd (.slice none 0 0) (t4 p q fate cut) from h7)
  have HK7 := hid ((H6.out.below ((Below.refl _ _).alloc (Nat.le_refl _) _)).keep hk7)
  have B7 := hid ((B6.out.alloc (by omega) _).trans HK7.out)
  have hs7 := hk7.size
  simp at hs7
  clear h7 hk7
  go_wp2_with fail
  refine (read_all wa.heap.size b bn bd _ (t4 p q fate cut) 0 w7 H7.out).mono ?_
  rintro e w8 ⟨v8, rfl, ha⟩
  rw [R4.out] at ha ⊢
  rcases ha with ⟨h0, _⟩ | ⟨_, hl8, g8, rfl, hg8, hgl8, hb8⟩
  · exact absurd rfl h0
  have HG8 := hid hg8
  have HL8 := hid hl8
  have HX8 := hid (rd_row hl8.symm hg8 (by have := hl8; unfold maxLen; omega))
  have HN8 := hid hb8
  have hs8 := hb8.size
  clear hg8 hl8 hb8
  have H8 := hid (H7.out.below HN8.out)
  have B8 := hid (B7.out.trans ((HN8.out).mono (by omega)))
  obtain ⟨cc, hcc⟩ : ∃ cc, cc = cutOf cut := ⟨_, rfl⟩
  have hcc2 : min (max cut 0) 128 = (cc : Int) := by rw [hcc]; unfold cutOf; omega
  have hc128 : cc ≤ 128 := by rw [hcc]; exact cutOf_le _
  obtain ⟨mx, hmx⟩ : ∃ mx : Int, mx = max cut 0 := ⟨_, rfl⟩
  have hmx2 : (if cut < 0 then (0 : Int) else cut) = mx := by rw [hmx]; split <;> omega
  have hmn3 : (if (128 : Int) < mx then (128 : Int) else mx) = (cc : Int) := by rw [← hcc2, hmx]; split <;> omega
  have HLP := hid (pad_length p (by have := HPL.out; omega))
  have HLQ := hid (pad_length q (by have := HQL.out; omega))
  rw [← hcc] at HXX
  clear hcc hcc2 hmx
  rcases (show fate.toNat % 4 = 0 ∨ fate.toNat % 4 = 1 ∨ fate.toNat % 4 = 2 ∨ fate.toNat % 4 = 3 by omega) with hd | hd | hd | hd
  · have HD := hid hd
    have hfd : ((fate.toNat : Int) % 4) = 0 := by omega
    clear hd
    have HO9 := hid (Own.empty w8 w8.heap.size (Nat.le_refl _))
    have HR9 := hid ((HPa.out.below B8.out).alloc (.cells #[] 5))
    have hz9 : (128 : Int) - (K1 : Int) = ((128 - K1 : Nat) : Int) := by omega
    go_wp2_with (first | (at_builtin; (refine appw (by rfl) (.tmp 68) (.tmp 69) rfl w8.heap.size (.slice (some ⟨w8.heap.size, 0, none⟩) 0 0) _ [] p p K1 rfl rfl HO9.out HR9.out (by have := HPL.out; simp; omega) rfl (by have := HPL.out; simp; omega) (by simp) ?_); intro ad9 cp9 w9 ho9 hg9; have Q9 := hid ho9; have HS9 := hid hg9; clear ho9 hg9) | (at_builtin; (refine appzw (by rfl) (.tmp 70) (.tmp 73) rfl w8.heap.size (.slice ad9 K1 cp9) _ p (pad p) (128 - K1) 128 rfl rfl rfl Q9.out (by have := HPL.out; omega) (by have := HPL.out; subst this; rfl) (by have := HPL.out; omega) (by have := HS9.out.size; simp at this; omega) ?_); intro ad10 cp10 w10 ho10 hg10; have Q10 := hid ho10; have HS10 := hid hg10; clear ho10 hg10; have HN9 := hid (((Below.refl w8.heap.size w8).alloc (Nat.le_refl _) (.cells #[] 5)).grown HS9.out (by simp) (fun k hk => by have : w8.heap.size = k := Option.some.inj hk; omega)); have HN10 := hid (HN9.out.grown HS10.out HN9.out.size (fun k hk => (Q9.out.lt k hk).1)); have hs10 := HN10.out.size; have H10 := hid (H8.out.below HN10.out); have B10 := hid (B8.out.trans (HN10.out.mono (by omega))); have HX10 := hid (HX8.out.below HN10.out); have QA10 := hid Q10.out.rd; have HO11 := hid (Own.empty w10 w10.heap.size (Nat.le_refl _)); have HR11 := hid ((HQa.out.below B10.out).alloc (.cells #[] 5)); have hz11 : (128 : Int) - (K2 : Int) = ((128 - K2 : Nat) : Int) := by omega) | (at_builtin; (refine appw (by rfl) (.tmp 75) (.tmp 76) rfl w10.heap.size (.slice (some ⟨w10.heap.size, 0, none⟩) 0 0) _ [] q q K2 rfl rfl HO11.out HR11.out (by have := HQL.out; simp; omega) rfl (by have := HQL.out; simp; omega) (by simp) ?_); intro ad11 cp11 w11 ho11 hg11; have Q11 := hid ho11; have HS11 := hid hg11; clear ho11 hg11) | (at_builtin; (refine appzw (by rfl) (.tmp 77) (.tmp 80) rfl w10.heap.size (.slice ad11 K2 cp11) _ q (pad q) (128 - K2) 128 rfl rfl rfl Q11.out (by have := HQL.out; omega) (by have := HQL.out; subst this; rfl) (by have := HQL.out; omega) (by have := HS11.out.size; simp at this; omega) ?_); intro ad12 cp12 w12 ho12 hg12; have Q12 := hid ho12; have HS12 := hid hg12; clear ho12 hg12; have HN11 := hid (((Below.refl w10.heap.size w10).alloc (Nat.le_refl _) (.cells #[] 5)).grown HS11.out (by simp) (fun k hk => by have : w10.heap.size = k := Option.some.inj hk; omega)); have HN12 := hid (HN11.out.grown HS12.out HN11.out.size (fun k hk => (Q11.out.lt k hk).1)); have hs12 := HN12.out.size; have H12 := hid (H10.out.below HN12.out); have B12 := hid (B10.out.trans (HN12.out.mono (by omega))); have HX12 := hid (HX10.out.below HN12.out); have QA12 := hid (QA10.out.below HN12.out); have QB12 := hid Q12.out.rd) | fail)
    have hBF : Below w.heap.size w w12 := HBA.out.trans (B12.out.mono (by omega))
    have HBF := hid hBF
    clear hBF
    refine (same_any _ _ X (pad p) w12 HX12.out QA12.out).mono ?_
    rintro e w' ⟨rfl, rfl⟩
    have hEQ : (X == pad p) = true := by rw [HXX.out, HD.out, mix0]; simp
    rw [hEQ]
    go_wp2
    go_ret
    exact ⟨rfl, HBF.out⟩
  · have HD := hid hd
    have hfd : ((fate.toNat : Int) % 4) = 1 := by omega
    clear hd
    have HO9 := hid (Own.empty w8 w8.heap.size (Nat.le_refl _))
    have HR9 := hid ((HPa.out.below B8.out).alloc (.cells #[] 5))
    have hz9 : (128 : Int) - (K1 : Int) = ((128 - K1 : Nat) : Int) := by omega
    go_wp2_with (first | (at_builtin; (refine appw (by rfl) (.tmp 68) (.tmp 69) rfl w8.heap.size (.slice (some ⟨w8.heap.size, 0, none⟩) 0 0) _ [] p p K1 rfl rfl HO9.out HR9.out (by have := HPL.out; simp; omega) rfl (by have := HPL.out; simp; omega) (by simp) ?_); intro ad9 cp9 w9 ho9 hg9; have Q9 := hid ho9; have HS9 := hid hg9; clear ho9 hg9) | (at_builtin; (refine appzw (by rfl) (.tmp 70) (.tmp 73) rfl w8.heap.size (.slice ad9 K1 cp9) _ p (pad p) (128 - K1) 128 rfl rfl rfl Q9.out (by have := HPL.out; omega) (by have := HPL.out; subst this; rfl) (by have := HPL.out; omega) (by have := HS9.out.size; simp at this; omega) ?_); intro ad10 cp10 w10 ho10 hg10; have Q10 := hid ho10; have HS10 := hid hg10; clear ho10 hg10; have HN9 := hid (((Below.refl w8.heap.size w8).alloc (Nat.le_refl _) (.cells #[] 5)).grown HS9.out (by simp) (fun k hk => by have : w8.heap.size = k := Option.some.inj hk; omega)); have HN10 := hid (HN9.out.grown HS10.out HN9.out.size (fun k hk => (Q9.out.lt k hk).1)); have hs10 := HN10.out.size; have H10 := hid (H8.out.below HN10.out); have B10 := hid (B8.out.trans (HN10.out.mono (by omega))); have HX10 := hid (HX8.out.below HN10.out); have QA10 := hid Q10.out.rd; have HO11 := hid (Own.empty w10 w10.heap.size (Nat.le_refl _)); have HR11 := hid ((HQa.out.below B10.out).alloc (.cells #[] 5)); have hz11 : (128 : Int) - (K2 : Int) = ((128 - K2 : Nat) : Int) := by omega) | (at_builtin; (refine appw (by rfl) (.tmp 75) (.tmp 76) rfl w10.heap.size (.slice (some ⟨w10.heap.size, 0, none⟩) 0 0) _ [] q q K2 rfl rfl HO11.out HR11.out (by have := HQL.out; simp; omega) rfl (by have := HQL.out; simp; omega) (by simp) ?_); intro ad11 cp11 w11 ho11 hg11; have Q11 := hid ho11; have HS11 := hid hg11; clear ho11 hg11) | (at_builtin; (refine appzw (by rfl) (.tmp 77) (.tmp 80) rfl w10.heap.size (.slice ad11 K2 cp11) _ q (pad q) (128 - K2) 128 rfl rfl rfl Q11.out (by have := HQL.out; omega) (by have := HQL.out; subst this; rfl) (by have := HQL.out; omega) (by have := HS11.out.size; simp at this; omega) ?_); intro ad12 cp12 w12 ho12 hg12; have Q12 := hid ho12; have HS12 := hid hg12; clear ho12 hg12; have HN11 := hid (((Below.refl w10.heap.size w10).alloc (Nat.le_refl _) (.cells #[] 5)).grown HS11.out (by simp) (fun k hk => by have : w10.heap.size = k := Option.some.inj hk; omega)); have HN12 := hid (HN11.out.grown HS12.out HN11.out.size (fun k hk => (Q11.out.lt k hk).1)); have hs12 := HN12.out.size; have H12 := hid (H10.out.below HN12.out); have B12 := hid (B10.out.trans (HN12.out.mono (by omega))); have HX12 := hid (HX10.out.below HN12.out); have QA12 := hid (QA10.out.below HN12.out); have QB12 := hid Q12.out.rd) | fail)
    have hBF : Below w.heap.size w w12 := HBA.out.trans (B12.out.mono (by omega))
    have HBF := hid hBF
    clear hBF
    refine (same_any _ _ X (pad q) w12 HX12.out QB12.out).mono ?_
    rintro e w' ⟨rfl, rfl⟩
    have hEQ : (X == pad q) = true := by rw [HXX.out, HD.out, mix1 _ _ _ HLP.out HLQ.out]; simp
    rw [hEQ]
    go_wp2
    go_ret
    exact ⟨rfl, HBF.out⟩
  · have HD := hid hd
    have hfd : ((fate.toNat : Int) % 4) = 2 := by omega
    clear hd
    have HO9 := hid (Own.empty w8 w8.heap.size (Nat.le_refl _))
    have HR9 := hid ((HPa.out.below B8.out).alloc (.cells #[] 5))
    have hz9 : (128 : Int) - (K1 : Int) = ((128 - K1 : Nat) : Int) := by omega
    go_wp2_with (first | (at_builtin; (refine appw (by rfl) (.tmp 68) (.tmp 69) rfl w8.heap.size (.slice (some ⟨w8.heap.size, 0, none⟩) 0 0) _ [] p p K1 rfl rfl HO9.out HR9.out (by have := HPL.out; simp; omega) rfl (by have := HPL.out; simp; omega) (by simp) ?_); intro ad9 cp9 w9 ho9 hg9; have Q9 := hid ho9; have HS9 := hid hg9; clear ho9 hg9) | (at_builtin; (refine appzw (by rfl) (.tmp 70) (.tmp 73) rfl w8.heap.size (.slice ad9 K1 cp9) _ p (pad p) (128 - K1) 128 rfl rfl rfl Q9.out (by have := HPL.out; omega) (by have := HPL.out; subst this; rfl) (by have := HPL.out; omega) (by have := HS9.out.size; simp at this; omega) ?_); intro ad10 cp10 w10 ho10 hg10; have Q10 := hid ho10; have HS10 := hid hg10; clear ho10 hg10; have HN9 := hid (((Below.refl w8.heap.size w8).alloc (Nat.le_refl _) (.cells #[] 5)).grown HS9.out (by simp) (fun k hk => by have : w8.heap.size = k := Option.some.inj hk; omega)); have HN10 := hid (HN9.out.grown HS10.out HN9.out.size (fun k hk => (Q9.out.lt k hk).1)); have hs10 := HN10.out.size; have H10 := hid (H8.out.below HN10.out); have B10 := hid (B8.out.trans (HN10.out.mono (by omega))); have HX10 := hid (HX8.out.below HN10.out); have QA10 := hid Q10.out.rd; have HO11 := hid (Own.empty w10 w10.heap.size (Nat.le_refl _)); have HR11 := hid ((HQa.out.below B10.out).alloc (.cells #[] 5)); have hz11 : (128 : Int) - (K2 : Int) = ((128 - K2 : Nat) : Int) := by omega) | (at_builtin; (refine appw (by rfl) (.tmp 75) (.tmp 76) rfl w10.heap.size (.slice (some ⟨w10.heap.size, 0, none⟩) 0 0) _ [] q q K2 rfl rfl HO11.out HR11.out (by have := HQL.out; simp; omega) rfl (by have := HQL.out; simp; omega) (by simp) ?_); intro ad11 cp11 w11 ho11 hg11; have Q11 := hid ho11; have HS11 := hid hg11; clear ho11 hg11) | (at_builtin; (refine appzw (by rfl) (.tmp 77) (.tmp 80) rfl w10.heap.size (.slice ad11 K2 cp11) _ q (pad q) (128 - K2) 128 rfl rfl rfl Q11.out (by have := HQL.out; omega) (by have := HQL.out; subst this; rfl) (by have := HQL.out; omega) (by have := HS11.out.size; simp at this; omega) ?_); intro ad12 cp12 w12 ho12 hg12; have Q12 := hid ho12; have HS12 := hid hg12; clear ho12 hg12; have HN11 := hid (((Below.refl w10.heap.size w10).alloc (Nat.le_refl _) (.cells #[] 5)).grown HS11.out (by simp) (fun k hk => by have : w10.heap.size = k := Option.some.inj hk; omega)); have HN12 := hid (HN11.out.grown HS12.out HN11.out.size (fun k hk => (Q11.out.lt k hk).1)); have hs12 := HN12.out.size; have H12 := hid (H10.out.below HN12.out); have B12 := hid (B10.out.trans (HN12.out.mono (by omega))); have HX12 := hid (HX10.out.below HN12.out); have QA12 := hid (QA10.out.below HN12.out); have QB12 := hid Q12.out.rd) | fail)
    have hBF : Below w.heap.size w w12 := HBA.out.trans (B12.out.mono (by omega))
    have HBF := hid hBF
    clear hBF
    have HU := hid (rd_take QB12.out cc (by have := HLP.out; have := HLQ.out; omega))
    obtain ⟨gv, cv, hgv⟩ : ∃ gv cv, Value.slice ad10 128 cp10 = .slice (some ⟨gv, 0, none⟩) 128 cv := own_head Q10.out (by have := HLP.out; have := HLQ.out; omega)
    simp only [Value.slice.injEq] at hgv
    obtain ⟨hgv1, _, hgv2⟩ := hgv
    subst hgv1 hgv2
    have HV := hid (rd_drop QA12.out cc (by have := HLP.out; have := HLQ.out; omega))
    have HLU := hid (show ((pad q).take cc).length = cc by rw [List.length_take]; have := HLP.out; have := HLQ.out; omega)
    have HLV := hid (show ((pad p).drop cc).length = 128 - cc by rw [List.length_drop]; have := HLP.out; have := HLQ.out; omega)
    have hcu : (cc : Int) ≤ (cp12 : Int) := by have := Q12.out.caps; omega
    have hcv : (128 : Int) ≤ (cp10 : Int) := by have := Q10.out.caps; omega
    have hcm : cp10 ≤ 9223372036854775807 ∧ cp12 ≤ 9223372036854775807 := ⟨Q10.out.caps.2.2, Q12.out.caps.2.2⟩
    have hcv2 : (cc : Int) ≤ (cp10 : Int) := by omega
    have hc8 : (cc : Int) ≤ 128 := by omega
    have hc0 : (0 : Int) ≤ (cc : Int) := by omega
    have HE0 := hid (Own.empty w12.drew w12.heap.size (Nat.le_refl _))
    have HU1 := hid (show Rd (w12.drew.alloc (.cells #[] 5)) (.slice ad12 cc cp12) ((pad q).take cc) from (HU.out.drew).alloc _)
    have HEQ := hid (show (X == (pad q).take cc ++ (pad p).drop cc) = true by rw [HXX.out, HD.out, mix2 _ _ _ HLP.out HLQ.out hc128]; simp)
    have hB0 : Below w12.heap.size w12 (w12.drew.alloc (.cells #[] 5)) := ((Below.refl _ w12).drew).alloc (Nat.le_refl _) _
    have HB0 := hid hB0
    clear hB0
    go_region_held3 (fun _ => True) (trivial) (first
      | (refine appst (by rfl) (.tmp 100) (.tmp 103) rfl w12.heap.size (.slice (some ⟨w12.heap.size, 0, none⟩) 0 0) _ [] ((pad q).take cc) ((pad q).take cc) cc rfl rfl HE0.out HU1.out (by rw [HLU.out]; simp) rfl (by rw [HLU.out]; simp; omega) (by simp) ?_; intro adA cpA wA hoA hgA; have QA_ := hid hoA; have HBA_ := hid (HB0.out.grown hgA (by simp) (fun k hk => by have : w12.heap.size = k := Option.some.inj hk; omega)); have HVA := hid (fun A h1 h2 => (HV.out A h1 h2).below HBA_.out); clear hoA hgA)
      | (refine appst (by rfl) (.tmp 104) (.tmp 107) rfl w12.heap.size (.slice adA cc cpA) _ ((pad q).take cc) ((pad p).drop cc) ((pad q).take cc ++ (pad p).drop cc) 128 rfl rfl QA_.out (HVA.out _ (fun h => if_pos h) (fun h => if_neg h)) (by rw [HLU.out, HLV.out]; omega) rfl (by rw [HLU.out, HLV.out]; omega) HBA_.out.size ?_; intro adB cpB wB hoB hgB; have QB_ := hid hoB; have HBB_ := hid (HBA_.out.grown hgB HBA_.out.size (fun k hk => (QA_.out.lt k hk).1)); have HXB := hid (HX12.out.below HBB_.out); clear hoB hgB)
      | (refine (same_any _ _ X ((pad q).take cc ++ (pad p).drop cc) wB HXB.out QB_.out.rd).mono ?_; rintro e w' ⟨rfl, rfl⟩; rw [HEQ.out]; dsimp only)
      | fail)
    go_wp2
    all_goals go_ret
    all_goals exact ⟨rfl, HBF.out.trans (HBB_.out.mono (by have := HBF.out.size; omega))⟩
  · have HD := hid hd
    have hfd : ((fate.toNat : Int) % 4) = 3 := by omega
    clear hd
    have HO9 := hid (Own.empty w8 w8.heap.size (Nat.le_refl _))
    have HR9 := hid ((HPa.out.below B8.out).alloc (.cells #[] 5))
    have hz9 : (128 : Int) - (K1 : Int) = ((128 - K1 : Nat) : Int) := by omega
    go_wp2_with (first | (at_builtin; (refine appw (by rfl) (.tmp 68) (.tmp 69) rfl w8.heap.size (.slice (some ⟨w8.heap.size, 0, none⟩) 0 0) _ [] p p K1 rfl rfl HO9.out HR9.out (by have := HPL.out; simp; omega) rfl (by have := HPL.out; simp; omega) (by simp) ?_); intro ad9 cp9 w9 ho9 hg9; have Q9 := hid ho9; have HS9 := hid hg9; clear ho9 hg9) | (at_builtin; (refine appzw (by rfl) (.tmp 70) (.tmp 73) rfl w8.heap.size (.slice ad9 K1 cp9) _ p (pad p) (128 - K1) 128 rfl rfl rfl Q9.out (by have := HPL.out; omega) (by have := HPL.out; subst this; rfl) (by have := HPL.out; omega) (by have := HS9.out.size; simp at this; omega) ?_); intro ad10 cp10 w10 ho10 hg10; have Q10 := hid ho10; have HS10 := hid hg10; clear ho10 hg10; have HN9 := hid (((Below.refl w8.heap.size w8).alloc (Nat.le_refl _) (.cells #[] 5)).grown HS9.out (by simp) (fun k hk => by have : w8.heap.size = k := Option.some.inj hk; omega)); have HN10 := hid (HN9.out.grown HS10.out HN9.out.size (fun k hk => (Q9.out.lt k hk).1)); have hs10 := HN10.out.size; have H10 := hid (H8.out.below HN10.out); have B10 := hid (B8.out.trans (HN10.out.mono (by omega))); have HX10 := hid (HX8.out.below HN10.out); have QA10 := hid Q10.out.rd; have HO11 := hid (Own.empty w10 w10.heap.size (Nat.le_refl _)); have HR11 := hid ((HQa.out.below B10.out).alloc (.cells #[] 5)); have hz11 : (128 : Int) - (K2 : Int) = ((128 - K2 : Nat) : Int) := by omega) | (at_builtin; (refine appw (by rfl) (.tmp 75) (.tmp 76) rfl w10.heap.size (.slice (some ⟨w10.heap.size, 0, none⟩) 0 0) _ [] q q K2 rfl rfl HO11.out HR11.out (by have := HQL.out; simp; omega) rfl (by have := HQL.out; simp; omega) (by simp) ?_); intro ad11 cp11 w11 ho11 hg11; have Q11 := hid ho11; have HS11 := hid hg11; clear ho11 hg11) | (at_builtin; (refine appzw (by rfl) (.tmp 77) (.tmp 80) rfl w10.heap.size (.slice ad11 K2 cp11) _ q (pad q) (128 - K2) 128 rfl rfl rfl Q11.out (by have := HQL.out; omega) (by have := HQL.out; subst this; rfl) (by have := HQL.out; omega) (by have := HS11.out.size; simp at this; omega) ?_); intro ad12 cp12 w12 ho12 hg12; have Q12 := hid ho12; have HS12 := hid hg12; clear ho12 hg12; have HN11 := hid (((Below.refl w10.heap.size w10).alloc (Nat.le_refl _) (.cells #[] 5)).grown HS11.out (by simp) (fun k hk => by have : w10.heap.size = k := Option.some.inj hk; omega)); have HN12 := hid (HN11.out.grown HS12.out HN11.out.size (fun k hk => (Q11.out.lt k hk).1)); have hs12 := HN12.out.size; have H12 := hid (H10.out.below HN12.out); have B12 := hid (B10.out.trans (HN12.out.mono (by omega))); have HX12 := hid (HX10.out.below HN12.out); have QA12 := hid (QA10.out.below HN12.out); have QB12 := hid Q12.out.rd) | fail)
    have hBF : Below w.heap.size w w12 := HBA.out.trans (B12.out.mono (by omega))
    have HBF := hid hBF
    clear hBF
    have HU := hid (rd_take QA12.out cc (by have := HLP.out; have := HLQ.out; omega))
    obtain ⟨gv, cv, hgv⟩ : ∃ gv cv, Value.slice ad12 128 cp12 = .slice (some ⟨gv, 0, none⟩) 128 cv := own_head Q12.out (by have := HLP.out; have := HLQ.out; omega)
    simp only [Value.slice.injEq] at hgv
    obtain ⟨hgv1, _, hgv2⟩ := hgv
    subst hgv1 hgv2
    have HV := hid (rd_drop QB12.out cc (by have := HLP.out; have := HLQ.out; omega))
    have HLU := hid (show ((pad p).take cc).length = cc by rw [List.length_take]; have := HLP.out; have := HLQ.out; omega)
    have HLV := hid (show ((pad q).drop cc).length = 128 - cc by rw [List.length_drop]; have := HLP.out; have := HLQ.out; omega)
    have hcu : (cc : Int) ≤ (cp10 : Int) := by have := Q10.out.caps; omega
    have hcv : (128 : Int) ≤ (cp12 : Int) := by have := Q12.out.caps; omega
    have hcm : cp12 ≤ 9223372036854775807 ∧ cp10 ≤ 9223372036854775807 := ⟨Q12.out.caps.2.2, Q10.out.caps.2.2⟩
    have hcv2 : (cc : Int) ≤ (cp12 : Int) := by omega
    have hc8 : (cc : Int) ≤ 128 := by omega
    have hc0 : (0 : Int) ≤ (cc : Int) := by omega
    have HE0 := hid (Own.empty w12.drew w12.heap.size (Nat.le_refl _))
    have HU1 := hid (show Rd (w12.drew.alloc (.cells #[] 5)) (.slice ad10 cc cp10) ((pad p).take cc) from (HU.out.drew).alloc _)
    have HEQ := hid (show (X == (pad p).take cc ++ (pad q).drop cc) = true by rw [HXX.out, HD.out, mix3 _ _ _ HLP.out HLQ.out hc128]; simp)
    have hB0 : Below w12.heap.size w12 (w12.drew.alloc (.cells #[] 5)) := ((Below.refl _ w12).drew).alloc (Nat.le_refl _) _
    have HB0 := hid hB0
    clear hB0
    go_region_held3 (fun _ => True) (trivial) (first
      | (refine appst (by rfl) (.tmp 111) (.tmp 114) rfl w12.heap.size (.slice (some ⟨w12.heap.size, 0, none⟩) 0 0) _ [] ((pad p).take cc) ((pad p).take cc) cc rfl rfl HE0.out HU1.out (by rw [HLU.out]; simp) rfl (by rw [HLU.out]; simp; omega) (by simp) ?_; intro adA cpA wA hoA hgA; have QA_ := hid hoA; have HBA_ := hid (HB0.out.grown hgA (by simp) (fun k hk => by have : w12.heap.size = k := Option.some.inj hk; omega)); have HVA := hid (fun A h1 h2 => (HV.out A h1 h2).below HBA_.out); clear hoA hgA)
      | (refine appst (by rfl) (.tmp 115) (.tmp 118) rfl w12.heap.size (.slice adA cc cpA) _ ((pad p).take cc) ((pad q).drop cc) ((pad p).take cc ++ (pad q).drop cc) 128 rfl rfl QA_.out (HVA.out _ (fun h => if_pos h) (fun h => if_neg h)) (by rw [HLU.out, HLV.out]; omega) rfl (by rw [HLU.out, HLV.out]; omega) HBA_.out.size ?_; intro adB cpB wB hoB hgB; have QB_ := hid hoB; have HBB_ := hid (HBA_.out.grown hgB HBA_.out.size (fun k hk => (QA_.out.lt k hk).1)); have HXB := hid (HX12.out.below HBB_.out); clear hoB hgB)
      | (refine (same_any _ _ X ((pad p).take cc ++ (pad q).drop cc) wB HXB.out QB_.out.rd).mono ?_; rintro e w' ⟨rfl, rfl⟩; rw [HEQ.out]; dsimp only)
      | fail)
    go_wp2
    all_goals go_ret
    all_goals exact ⟨rfl, HBF.out.trans (HBB_.out.mono (by have := HBF.out.size; omega))⟩

set_option maxHeartbeats 1000000 in
theorem walk (a0 : Option Addr) (len0 cap0 : Nat) (z0 : List Int) (a1 : Option Addr) (len1 cap1 : Nat) (z1 : List Int) (a2 : Int) (a3 : Int) (w : World) (w0 : IsRow .u8 w a0 len0 cap0 z0) (w1 : IsRow .u8 w a1 len1 cap1 z1) (w2 : (Lit.int .u8 a2).wf = true) (w3 : (Lit.int .i64 a3).wf = true) :
    Calls Try.prog 4 #[.slice a0 len0 cap0, .slice a1 len1 cap1, .int .u8 a2, .int .i64 a3] w fun e w' => e = .returned (.bool true) ∧ Below w.heap.size w w' := by

  have b0 := w0.bounds
  have b1 := w1.bounds
  obtain ⟨p, hpl, hp⟩ := w0.rd (min len0 128) (Nat.min_le_left _ _)
  obtain ⟨q, hql, hq⟩ := w1.rd (min len1 128) (Nat.min_le_left _ _)
  obtain ⟨f, hf1, hf2⟩ := u8_of w2
  exact tears_some a0 a1 len0 cap0 (min len0 128) len1 cap1 (min len1 128) p q f a3 w b0.1 b0.2.1 rfl b1.1 b1.2.1 rfl hp hpl hq hql a2 hf1

/-! ### THE ROW's STEP -/
set_option maxRecDepth 100000 in
theorem lifted (os : Os) (started : os.Started) (H : Type) (enc : TypeId × Value → H) :
    ReturnsInHanded {} Try.checked os 4 .any (Rows.slabTearsSpec.pre6 enc Try.prog Try.f4 Rows.slabTearsRow.domain false) (Rows.slabTearsSpec.post enc Try.prog Try.f4 false true false false) := by
  refine returnsInHanded_of_change (C := Try.checked) own started (by kernel_rfl) Try.func4
    (ChangeSpec.witness6 (enc := enc) (C := Try.checked) false ⟨#[], #[.slice none 0 0, .slice none 0 0, .int .u8 0, .int .i64 0], []⟩ 8 (by kernel_rfl) (by kernel_rfl) (by kernel_rfl) (by kernel_rfl)) ?_
  intro W base args ds gs before hval0 hW hcnd _
  have hval : ∀ (j : Nat) t v, Try.f4.params[j]? = some t → args[j]? = some v → Value.okWide Try.prog W .any base t v := hval0
  have hW' := hW
  obtain ⟨p, q, hA0, hV, rfl, hfz, hnd⟩ := hW
  have hA : DataW.TrodAll enc Try.prog W 0 (fun _ => true) true Try.f4.params.toList args.toList ds p := hA0
  rw [Try.params4] at hA hval
  obtain ⟨v0, vs0, d0, ds0, p0, q0, hargs, rfl, rfl, h0, r0⟩ := trodAll_cons hA
  obtain ⟨v1, vs1, d1, ds1, p1, q1, rfl, rfl, rfl, h1, r1⟩ := trodAll_cons r0
  obtain ⟨v2, vs2, d2, ds2, p2, q2, rfl, rfl, rfl, h2, r2⟩ := trodAll_cons r1
  obtain ⟨v3, vs3, d3, ds3, p3, q3, rfl, rfl, rfl, h3, r3⟩ := trodAll_cons r2
  obtain ⟨rfl, rfl, rfl⟩ := trodAll_nil r3
  obtain rfl : args = #[v0, v1, v2, v3] := by cases args; simp_all
  obtain ⟨rfl, rfl⟩ := trodVars_none hV
  have k0 := h0
  have lt0 : ∀ x ∈ p0, x.block < W.heap.size := by obtain ⟨m, hm⟩ := k0; exact DataW.trod_lt m _ _ _ hm
  have k1 := h1
  have lt1 : ∀ x ∈ p1, x.block < W.heap.size := by obtain ⟨m, hm⟩ := k1; exact DataW.trod_lt m _ _ _ hm
  have k2 := h2
  have lt2 : ∀ x ∈ p2, x.block < W.heap.size := by obtain ⟨m, hm⟩ := k2; exact DataW.trod_lt m _ _ _ hm
  have k3 := h3
  have lt3 : ∀ x ∈ p3, x.block < W.heap.size := by obtain ⟨m, hm⟩ := k3; exact DataW.trod_lt m _ _ _ hm
  obtain ⟨a0, len0, cap0, rfl⟩ := okWide_slice Try.underlying31 (hval 0 31 v0 rfl rfl)
  obtain ⟨z0, w0⟩ : ∃ zs, IsRow .u8 W a0 len0 cap0 zs := by
    obtain ⟨fuel, hf⟩ := h0
    rcases open_ints Try.underlying31 Try.underlying5 (by kernel_rfl) hf with ⟨hcs, _⟩ | ⟨x, l, c, zs, hcs, _, hl, hm, hz, _, hcell, hwz⟩
    · simp [Value.cells] at hcs
      obtain ⟨rfl, rfl, rfl⟩ := hcs
      exact ⟨[], .inl ⟨rfl, rfl, rfl, rfl⟩⟩
    · simp [Value.cells] at hcs
      obtain ⟨rfl, rfl, rfl⟩ := hcs
      exact ⟨zs, .inr ⟨_, rfl, hl, hm, by simpa using hz, hcell, hwz⟩⟩
  obtain ⟨a1, len1, cap1, rfl⟩ := okWide_slice Try.underlying31 (hval 1 31 v1 rfl rfl)
  obtain ⟨z1, w1⟩ : ∃ zs, IsRow .u8 W a1 len1 cap1 zs := by
    obtain ⟨fuel, hf⟩ := h1
    rcases open_ints Try.underlying31 Try.underlying5 (by kernel_rfl) hf with ⟨hcs, _⟩ | ⟨x, l, c, zs, hcs, _, hl, hm, hz, _, hcell, hwz⟩
    · simp [Value.cells] at hcs
      obtain ⟨rfl, rfl, rfl⟩ := hcs
      exact ⟨[], .inl ⟨rfl, rfl, rfl, rfl⟩⟩
    · simp [Value.cells] at hcs
      obtain ⟨rfl, rfl, rfl⟩ := hcs
      exact ⟨zs, .inr ⟨_, rfl, hl, hm, by simpa using hz, hcell, hwz⟩⟩
  obtain ⟨a2, rfl, rfl, rfl, w2⟩ := open_int Try.underlying5 (hval 2 5 v2 rfl rfl) h2
  obtain ⟨a3, rfl, rfl, rfl, w3⟩ := open_int Try.underlying3 (hval 3 3 v3 rfl rfl) h3
  clear hA0 hval0
  refine (walk a0 len0 cap0 z0 a1 len1 cap1 z1 a2 a3 W w0 w1 w2 w3).mono fun e W' ⟨he, bel⟩ => ?_
  subst he
  exact ⟨_, rfl, _, _, _, [], _, [], hW', trodAll_mk1 (shut_bool Try.underlying4 _), (trodAll_cons_mk (Below.trod laidOut (by kernel_rfl) (of_decide_eq_true (by kernel_rfl)) k0 bel lt0) (trodAll_cons_mk (Below.trod laidOut (by kernel_rfl) (of_decide_eq_true (by kernel_rfl)) k1 bel lt1) (trodAll_cons_mk (Below.trod laidOut (by kernel_rfl) (of_decide_eq_true (by kernel_rfl)) k2 bel lt2) (trodAll_cons_mk (Below.trod laidOut (by kernel_rfl) (of_decide_eq_true (by kernel_rfl)) k3 bel lt3) trodAll_mk0)))), rfl, bel.frame _, fun h => by cases h⟩

theorem over : Rows.slabTearsRow.holds Try.pinned (OpenSpec.ofChange Rows.slabTearsSpec) :=
  OpenClaim.holds_of_wide 4 Try.f4 rfl rfl rfl rfl rfl rfl rfl ⟨rfl, rfl, rfl, rfl, rfl⟩ rfl rfl rfl rfl rfl (by kernel_rfl) Try.func4 (by kernel_rfl)
    (of_decide_eq_true (by kernel_rfl)) (by unfold Func.isWrapper; first | (rw [if_pos (by decide +kernel)]; kernel_rfl) | (rw [if_neg (by decide +kernel)]; exact ⟨rfl, rfl⟩))
    (fun os started H enc _ => lifted os started H enc)

/-- THE STATEMENT -/
theorem slabTears_holds : Rows.SlabTearsSaid := over
#print axioms slabTears_holds
end Go.Proofs.Ytnnamieepmbglaa.slabTears
