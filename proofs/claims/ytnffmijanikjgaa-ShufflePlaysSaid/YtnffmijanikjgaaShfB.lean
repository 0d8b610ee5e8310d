/-
  Contracts of shuffle: shift.
-/
import Derived.Test.YtnffmijanikjgaaShfA
import Derived.Test.YtnffmijanikjgaaAppR
namespace Go.Proofs.Ytnffmijanikjgaa
open Go.RowKit Go.Shelf
set_option linter.unusedVariables false

theorem Try.infoMove : (Try.prog.info? 76).map (fun i => (i.zero, i.size, i.bytes)) = some (some (.agg #[.int .u32 0, .int .i64 0, .int .i64 0]), 3, 24) := by kernel_rfl

/-- A move's cells. -/
def mvc (x : Nat × Nat × Nat) : List Value := [uv x.1, iv x.2.1, iv x.2.2]
def mvcs (l : List (Nat × Nat × Nat)) : List Value := l.flatMap mvc
theorem mvcs_append (l k : List (Nat × Nat × Nat)) : mvcs (l ++ k) = mvcs l ++ mvcs k := by simp [mvcs]
theorem mvcs_len (l : List (Nat × Nat × Nat)) : (mvcs l).length = l.length * 3 := by
  induction l with
  | nil => rfl
  | cons x l ih => rw [show mvcs (x :: l) = mvc x ++ mvcs l from rfl, List.length_append, ih, show (mvc x).length = 3 from rfl, List.length_cons]; omega
theorem mvcs_one (l : List (Nat × Nat × Nat)) : ∀ y ∈ mvcs l, y.oneCell' = true := by
  intro y hy
  unfold mvcs at hy
  rw [List.mem_flatMap] at hy
  obtain ⟨x, _, hy⟩ := hy
  simp only [mvc, List.mem_cons, List.not_mem_nil, or_false] at hy
  rcases hy with rfl | rfl | rfl <;> rfl

theorem own_rising (m : Mx) (i j : Nat) : (m.own i j).Pairwise (· < ·) := List.Pairwise.sublist List.filter_sublist List.pairwise_lt_range

theorem shift_snoc (m : Mx) (f t : Nat) (J : List Nat) (j : Nat) : m.shift f t (J ++ [j]) = (m.shift f t J).mv j f t := by simp [Mx.shift]
theorem shift_r (f t : Nat) : ∀ (J : List Nat) (m : Mx), (m.shift f t J).r = m.r
  | [], _ => rfl
  | j :: J, m => (shift_r f t J (m.mv j f t)).trans (mv_r _ _ _ _)
theorem shift_n (f t : Nat) : ∀ (J : List Nat) (m : Mx), (m.shift f t J).n = m.n
  | [], _ => rfl
  | j :: J, m => (shift_n f t J (m.mv j f t)).trans (mv_n _ _ _ _)

/-- Behind some moves the others may still go. -/
theorem shift_mid {f t : Nat} : ∀ (J1 : List Nat) {m : Mx} {J2 : List Nat}, m.n ≤ 16 → One m → (J1 ++ J2).Nodup → (∀ j ∈ J1 ++ J2, CanGo m j f t) → One (m.shift f t J1) ∧ ∀ j ∈ J2, CanGo (m.shift f t J1) j f t
  | [], m, J2, _, ho, _, hc => ⟨ho, hc⟩
  | j :: J1, m, J2, hn, ho, hd, hc => by
    rw [List.cons_append, List.nodup_cons] at hd
    have h0 := hc j (by simp)
    refine shift_mid J1 (m := m.mv j f t) (by rw [mv_n]; exact hn) (mv_one hn ho h0) hd.2 fun j' hj' => ?_
    exact h0.mv hn ho (hc j' (by rw [List.cons_append]; exact List.mem_cons_of_mem _ hj')) (fun e => hd.1 (e ▸ hj'))

/-- Behind its removal it stands nowhere. -/
theorem gone_where {m : Mx} {j f t : Nat} (hn : m.n ≤ 16) (ho : One m) (hc : CanGo m j f t) : (m.stand f (m.own f j) 0).where j = none := by
  refine where_none_of fun i hi => ?_
  rw [Mx.stand_r] at hi
  by_cases e : i = f
  · subst e; exact own_gone_self hn hc.j0
  · rw [own_gone hn hc.j0 (.inr e)]
    apply Classical.byContradiction
    intro h
    exact e (ho j i f hc.j0 hi hc.fr h hc.own)

theorem gone_fit {m : Mx} {j f t : Nat} (hn : m.n ≤ 16) (hc : CanGo m j f t) : (m.stand f (m.own f j) 0).fit t (m.own f j) = true := by
  unfold Mx.fit
  rw [List.all_eq_true]
  intro k hk
  rw [Mx.stand_cell _ _ _ _ _ _ (own_lt hn) (own_lt hn k hk)]
  rw [if_neg (fun h => hc.ne h.1.symm), hc.fits k hk]
  rfl

theorem own_okl {m : Mx} {j f : Nat} (h : m.own f j ≠ []) : OkL m.n (m.own f j) := OkL.of h (fun x hx => (own_mem.1 hx).1) (own_rising m f j)

theorem CanGo.j32 {w : World} {b : Nat} {m : Mx} {j f t : Nat} (h : MxAt w b m) (hc : CanGo m j f t) : j < 4294967296 := by
  obtain ⟨k, hk⟩ := List.exists_mem_of_ne_nil _ hc.own
  rw [← (own_mem.1 hk).2]
  exact h.c32 _

set_option maxHeartbeats 4000000 in
theorem shift_any (w : World) (b f t : Nat) (m : Mx) (va : Value) (J : List Nat) (h : MxAt w b m) (ho : One m) (hd : J.Nodup) (hc : ∀ j ∈ J, CanGo m j f t) (ht : t < m.r) (hJ : J.length ≤ 128) (hr : RdV w va (J.map uv)) (hoff : Off va b) :
    Calls Try.prog 56 #[.pointer (some ⟨b, 0, none⟩), .int .i64 t, va] w fun e w' => ∃ v, e = .returned v ∧ w'.ownsRow w.heap.size 76 3 v J.length (mvcs (J.map fun j => (j, f, t))) ∧ MxAt w' b (m.shift f t J) ∧ Keeps (fun i => i = b) w w' := by
  obtain ⟨ad, cap, rfl, hcl, hcm⟩ := hr.len
  rw [List.length_map] at hcl hr hoff
  have HR := hid hr
  have HOF := hid hoff
  have HH := hid h
  have HB := hid h.lt
  have hr8 := h.r8
  have hn16 := h.n16
  have hti : (t : Int) < 8 := by omega
  have HO := hid ho
  have HD := hid hd
  have HC := hid hc
  clear hr h ho hd hc hoff
  rw [List.length_map]
  go_enter Try.func56, Try.ntmps56
  go_wp2
  go_loopw [7, 15] (fun v i wr => ∃ k : Nat, k ≤ J.length ∧ i = .int .i64 k ∧ wr.ownsRow w.heap.size 76 3 v k (mvcs ((J.take k).map fun j => (j, f, t))) ∧ MxAt wr b (m.shift f t (J.take k)) ∧ Keeps (fun i => i = b) w wr) (fun _ i _ => J.length - (intOf i).toNat)
  case atStart => exact ⟨0, Nat.zero_le _, rfl, World.ownsRow_nil _ _ _ _, HH.out, Keeps.refl _ _⟩
  case round =>
    obtain ⟨k, hk, rfl, hv, hm, hK⟩ := hrel
    have HK := hid hK
    have hs0 := hK.size
    have HM := hid hm
    have HV := hid hv
    clear hv hm hK
    by_cases hlt : k < J.length
    · obtain ⟨j, hj⟩ : ∃ j, J[k]? = some j := ⟨_, List.getElem?_eq_getElem hlt⟩
      have HT := hid (take_snoc' J k j hj)
      have hsplit : J = J.take k ++ J.drop k := (List.take_append_drop k J).symm
      have hmid := shift_mid (J.take k) (m := m) (J2 := J.drop k) hn16 HO.out (by rw [← hsplit]; exact HD.out) (by rw [← hsplit]; exact HC.out)
      have hcj : CanGo (m.shift f t (J.take k)) j f t := hmid.2 j (by rw [drop_cons' hj]; simp)
      have hom := hmid.1
      have hnk : (m.shift f t (J.take k)).n ≤ 16 := by rw [shift_n]; exact hn16
      have hrk : t < (m.shift f t (J.take k)).r := by rw [shift_r]; exact ht
      have HS := hid (show m.shift f t (J.take (k + 1)) = (m.shift f t (J.take k)).mv j f t by rw [HT.out, shift_snoc])
      clear hmid hsplit
      obtain ⟨-, g, o, rfl, hg, hcell⟩ := HR.out.at1 k (uv j) (by simp [hj])
      have hne : g ≠ b := HOF.out g o _ _ rfl
      have hcell2 : wr.cell? ⟨g, o + k, none⟩ = some (.int .u32 (j : Nat)) := by
        rw [HK.out.cell (p := ⟨g, o + k, none⟩) hg hne]; exact hcell
      clear hcell hj hg
      generalize hmk : m.shift f t (J.take k) = mk at *
      have HCJ := hid hcj
      have HOM := hid hom
      have HNK := hid hnk
      have HRK := hid hrk
      have HMK := hid hmk
      clear hmk hcj hom hnk hrk
      obtain ⟨wq, hwq⟩ : ∃ wq, wq = wr := ⟨_, rfl⟩
      subst hwq
      go_wp2_with fail
      refine (of_some wq b mk j f HM.out HCJ.out.wh).mono ?_
      rintro e w2 ⟨v2, rfl, hv2, -, hb2⟩
      have HB2 := hid hb2
      have hs2 := hb2.size
      have HM2 := hid (HM.out.below hb2 HM.out.lt)
      have HV2 := hid (owns_below HV.out hb2)
      have HN2 := hid hv2
      clear hb2 hv2
      go_wp2_with fail
      refine (remove_yes w2 b j f mk HM2.out HCJ.out.wh).mono ?_
      rintro e w3 ⟨rfl, hm3, hk3⟩
      have HM3 := hid hm3
      have HK3 := hid hk3
      have hs3 := hk3.size
      have HN3 := hid (owns_by HN2.out fun q hq => hk3.block q (World.ownsRow.lt HN2.out q hq).2 (by have := (World.ownsRow.lt HN2.out q hq).1; have := HB.out; omega))
      have HV3 := hid (owns_by HV2.out fun q hq => hk3.block q (World.ownsRow.lt HV2.out q hq).2 (by have := (World.ownsRow.lt HV2.out q hq).1; have := HB.out; omega))
      clear hm3 hk3
      go_wp2_with fail
      refine (put_yes w3 b j t v2 (mk.own f j) (mk.stand f (mk.own f j) 0) HM3.out (RdV.of_own HN3.out) (Off.of_own HN3.out (by have := HB.out; omega)) HCJ.out.j0 (HCJ.out.j32 HM.out) (by rw [Mx.stand_r]; exact HRK.out) (by have := own_okl HCJ.out.own; unfold OkL at *; rw [Mx.stand_n]; exact this) (gone_where HNK.out HOM.out HCJ.out) (gone_fit HNK.out HCJ.out)).mono ?_
      rintro e w4 ⟨rfl, hm4, hk4⟩
      have HM4 := hid (show MxAt w4 b (mk.mv j f t) from hm4)
      have HK4 := hid hk4
      have hs4 := hk4.size
      have hv4 := owns_by HV3.out fun q hq => hk4.block q (World.ownsRow.lt HV3.out q hq).2 (by have := (World.ownsRow.lt HV3.out q hq).1; have := HB.out; omega)
      clear hm4 hk4
      have hf8 : (f : Int) < 8 := by have := HCJ.out.fr; have := HM.out.r8; omega
      have hsrc := hid (SrcC.lit w4 #[.int .u32 (j : Nat), .int .i64 (f : Nat), .int .i64 (t : Nat)] 76 1 (mvcs [(j, f, t)]) rfl)
      have hof := hid (owns_below hv4 ((Below.refl _ _).alloc (Nat.le_refl _) (.cells #[.int .u32 (j : Nat), .int .i64 (f : Nat), .int .i64 (t : Nat)] 76)))
      have HV4 := hid hv4
      obtain ⟨av, cv, rfl, hcv1, hcv2⟩ := owns_slice hv4
      clear hv4
      go_wp2_with (at_builtin; (refine appsw (by rfl) 58 76 (.tmp 34) (.tmp 39) rfl w.heap.size 3 24 _ Try.underlying58 Try.infoMove rfl (by decide) _ _ k 1 (k + 1) _ _ rfl rfl hof.out hsrc.out rfl (mvcs_one _) rfl (by omega) (by omega) (by simp; omega) ?_); intro ad9 cp9 wA hoA hgA; have HOA := hid hoA; have HGA := hid hgA; clear hoA hgA)
      have hkA : Keeps (fun i => i = b) w wA := by
        refine (((HK.out.trans ((Keeps.of_below HB2.out (fun i h1 h2 => absurd h1 (by omega))))).trans (HK3.out.trans HK4.out)).alloc (.cells #[.int .u32 (j : Nat), .int .i64 (f : Nat), .int .i64 (t : Nat)] 76)).trans' (Keeps.of_grown HGA.out) fun i h1 h2 => ?_
        have := (World.ownsRow.lt HV4.out i h2).1
        omega
      have hmA : MxAt wA b (mk.mv j f t) := by
        refine HM4.out.block ((HGA.out.block b (by rw [World.size_alloc]; have := HM4.out.lt; omega) (fun e => ?_)).trans (Below.heap_alloc _ _ _ HM4.out.lt))
        have := (World.ownsRow.lt HV4.out b e.symm).1
        have := HB.out
        omega
      have HKA := hid hkA
      have HMA := hid hmA
      clear hkA hmA
      go_wp2
      go_roundw
      case rel => exact ⟨k + 1, hlt, by go_num, by rw [HT.out, List.map_append, mvcs_append]; exact HOA.out, by rw [HS.out]; exact HMA.out, HKA.out⟩
      case measure => simp [intOf]; omega
    · have e : k = J.length := by omega
      have HE := hid (show J.take k = J by rw [e]; exact List.take_length)
      have hki : ¬ (k : Int) < (J.length : Int) := by omega
      have HE2 := hid e
      clear e hlt
      go_wp2
      go_ret
      refine ⟨_, rfl, ?_, ?_, HK.out⟩
      · have := HV.out; rw [HE.out, HE2.out] at this; exact this
      · have := HM.out; rw [HE.out] at this; exact this

end Go.Proofs.Ytnffmijanikjgaa
