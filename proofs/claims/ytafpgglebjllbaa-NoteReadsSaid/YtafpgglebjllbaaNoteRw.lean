/-
  The document's row of numbers: plain words, contract.
-/
import Derived.Test.YtafpgglebjllbaaRefText
import Derived.Test.YtafpgglebjllbaaRefNext
import Derived.Test.YtafpgglebjllbaaNoteW
import Derived.Test.YtafpgglebjllbaaNoteGN
namespace Go.Proofs.Ytafpgglebjllbaa
open Go.RowKit

namespace Note
/-- So many numbers, one by one. -/
def iterN : Nat → Option (List UInt8) → List Nat × Option (List UInt8)
  | 0, s => ([], s)
  | k + 1, s => ((iterN k s).1 ++ [(Ink.stNum (iterN k s).2).1], (Ink.stNum (iterN k s).2).2)

def rowEnd (txt : Bool) (s : Option (List UInt8)) : List UInt8 × Option (List UInt8) := if txt then Ink.stText s else ([], s)

theorem iterN_length (s : Option (List UInt8)) : ∀ k, (iterN k s).1.length = k
  | 0 => rfl
  | k + 1 => by simp [iterN, iterN_length s k]

theorem iterN_le (s : Option (List UInt8)) : ∀ k, ((iterN k s).2.getD []).length ≤ (s.getD []).length
  | 0 => Nat.le_refl _
  | k + 1 => Nat.le_trans (Ink.stNum_le _) (iterN_le s k)

theorem iterN_back (ns : List Nat) (r : List UInt8) (h : ∀ n ∈ ns, n < 18446744073709551616) : iterN ns.length (some (nums ns ++ r)) = (ns, some r) := by
  have key : ∀ k, k ≤ ns.length → iterN k (some (nums ns ++ r)) = (ns.take k, some (nums (ns.drop k) ++ r)) := by
    intro k
    induction k with
    | zero => intro _; rfl
    | succ k ih =>
      intro hk
      unfold iterN
      rw [ih (by omega)]
      have e : ns.drop k = ns[k] :: ns.drop (k + 1) := List.drop_eq_getElem_cons (by omega)
      simp only
      rw [e, nums_cons, List.append_assoc, Ink.stNum_back _ _ (h _ (List.getElem_mem _)), List.take_succ_eq_append_getElem (by omega)]
  rw [key _ (Nat.le_refl _)]
  simp [nums]
end Note

/-- A slice of numbers of the call's own. -/
def uw (n : Nat) : Value := .int .u64 (n : Int)
def Own64 (w : World) (base : Nat) (v : Value) (l : List Nat) : Prop := w.ownsRow base 71 1 v l.length (l.map uw)

theorem Own64.nil (w : World) (base : Nat) : Own64 w base (.slice none 0 0) [] := World.ownsRow_nil _ _ _ _
theorem Own64.lt {w : World} {base : Nat} {v : Value} {l : List Nat} (h : Own64 w base v l) : ∀ k, v.ownBlock = some k → base ≤ k ∧ k < w.heap.size := World.ownsRow.lt h
theorem Own64.to {w w' : World} {base : Nat} {v : Value} {l : List Nat} (h : Own64 w base v l) (hc : ∀ k, v.ownBlock = some k → w'.heap[k]? = w.heap[k]?) : Own64 w' base v l := by
  refine ⟨h.1, ?_⟩
  rcases h.2 with hn | ⟨g, cap, cur, rfl, hb, hgg, rest⟩
  · exact .inl hn
  · exact .inr ⟨g, cap, cur, rfl, hb, by rw [hc g rfl]; exact hgg, rest⟩
theorem Own64.below {w w' : World} {base : Nat} {v : Value} {l : List Nat} (h : Own64 w base v l) (hb : Below w.heap.size w w') : Own64 w' base v l :=
  h.to fun k hk => hb.block k (h.lt k hk).2
theorem Own64.base {w : World} {b b' : Nat} {v : Value} {l : List Nat} (h : Own64 w b v l) (hb : ∀ k, v.ownBlock = some k → b' ≤ k) : Own64 w b' v l := by
  refine ⟨h.1, ?_⟩
  rcases h.2 with hn | ⟨g, cap, cur, rfl, _, hgg, rest⟩
  · exact .inl hn
  · exact .inr ⟨g, cap, cur, rfl, hb g rfl, hgg, rest⟩
theorem Own64.keeps {S : Nat → Prop} {w w' : World} {base : Nat} {v : Value} {l : List Nat} (h : Own64 w base v l) (hk : Keeps S w w') (hn : ∀ k, v.ownBlock = some k → ¬ S k) : Own64 w' base v l :=
  h.to fun k hv => hk.block k (h.lt k hv).2 (hn k hv)
theorem Own64.cells {w : World} {base : Nat} {v : Value} {l : List Nat} (h : Own64 w base v l) (h0 : 0 < l.length) :
    ∃ g cap, v = .slice (some ⟨g, 0, none⟩) l.length cap ∧ base ≤ g ∧ g < w.heap.size ∧ l.length ≤ cap ∧ cap ≤ 9223372036854775807 ∧ ∀ j, j < l.length → w.cell? ⟨g, j, none⟩ = some (.int .u64 ((l.getD j 0 : Nat) : Int)) := by
  rcases h.2 with ⟨rfl, hn⟩ | ⟨g, cap, cur, rfl, hb, hg, h1, h2, h3, h4⟩
  · omega
  · refine ⟨g, cap, rfl, hb, (Array.getElem?_eq_some_iff.1 hg).1, h1, by unfold maxLen at h2; omega, fun j hj => ?_⟩
    have hat := World.ownsRow.cellAt (w := w) (g := g) (cap := cap) (n := l.length) (xs := l.map uw) ⟨h.1, h.2⟩ j (by omega)
    rw [hat]
    simp [List.getElem?_map, List.getElem?_eq_getElem hj, uw]

theorem Try.infoU64 : (Try.prog.info? 71).map (fun i => (i.zero, i.size, i.bytes)) = some (some (.int .u64 0), 1, 8) := by kernel_rfl

/-- APPEND of one number. -/
theorem app64 {w : World} {ops : Array Oper} {rest : List Oper} {o : Oper} {a : Act} {Q : Exit → Act → World → Prop} (hgd : o.guard = none) (s x : Operand)
    (ho : o.op = .call { callee := .builtin .append, args := #[s, x], argTypes := #[72, 72] })
    (base g : Nat) (v : Value) (l : List Nat) (n : Nat) (hs : a.eval s = v) (hx : a.eval x = .slice (some ⟨g, 0, none⟩) 1 1) (hown : Own64 w base v l) (hg : w.cell? ⟨g, 0, none⟩ = some (.int .u64 (n : Int)))
    (hlen : l.length ≤ 1000000) (hbase : base ≤ w.heap.size)
    (h : ∀ v' w', Own64 w' base v' (l ++ [n]) → w.grownBy w' v.ownBlock → wpList Try.prog ops Q rest (a.put o.dst v') w') :
    wpList Try.prog ops Q (o :: rest) a w := by
  obtain ⟨i, hi, hz0, hz1, hz2⟩ := info_parts Try.infoU64
  refine wpList_append_own w hgd s x 72 ho base 71 i (.int .u64 0) 1 8 Try.underlying72 hi hz0 hz1 hz2 rfl (by decide) v l.length _ hs hown ⟨g, 0, none⟩ 1 1 [uw n] hx rfl ?_ ?_ (by unfold maxLen; omega) (by omega) hbase ?_
  · intro j y hj
    have hj0 : j = 0 := by
      have := (List.getElem?_eq_some_iff.1 hj).1
      simp at this
      exact this
    subst hj0
    simp at hj
    rw [Addr.add_lit, ← hj]
    exact hg
  · intro y hy
    simp at hy
    subst hy
    rfl
  · intro v' w' hown' hgrow _
    refine h v' w' ?_ hgrow
    unfold Own64
    rw [List.length_append, List.map_append]
    exact hown'

/-- WHAT ROW ANSWERS. -/
def RowPost (w : World) (l : List UInt8) (n : Nat) (txt : Bool) (e : Ending) (w' : World) : Prop :=
  ∃ (lv bv : Value) (ec : Int), e = .returned (.tuple #[lv, bv, .int .i64 ec]) ∧ Below w.heap.size w w' ∧
    ((Knot.uerr l ≠ 0 ∧ ec = Knot.uerr l) ∨
     (Knot.uerr l = 0 ∧ (Note.rowEnd txt (Note.iterN n (some (Knot.utext l))).2).2 ≠ some [] ∧ ec = 4) ∨
     (Knot.uerr l = 0 ∧ (Note.rowEnd txt (Note.iterN n (some (Knot.utext l))).2).2 = some [] ∧ Own64 w' w.heap.size lv (Note.iterN n (some (Knot.utext l))).1 ∧
       Own w' w.heap.size bv (Note.rowEnd txt (Note.iterN n (some (Knot.utext l))).2).1 ∧ ec = 0))

set_option maxRecDepth 100000 in
set_option maxHeartbeats 4000000 in
theorem row_any (p : Value) (l : List UInt8) (n : Nat) (txt : Bool) (w : World) (hrd : Rd w p l) (hl : l.length ≤ 100000) (hn : n ≤ 100) :
    Calls Try.prog 48 #[p, .int .i64 (n : Int), .bool txt] w (RowPost w l n txt) := by
  by_cases c1 : Knot.err l = 0
  case neg =>
    have HU := hid (show Knot.uerr l = Knot.err l by unfold Knot.uerr; rw [if_pos c1])
    have hq : ((Knot.err l : Int) != 0) = true := by rw [bne_iff_ne]; omega
    have HC := hid c1
    have HRD := hid hrd
    clear c1 hrd
    go_enter Try.func48, Try.ntmps48
    go_wp2_with fail
    refine (refnext_any p l w HRD.out (by omega)).mono ?_
    rintro e w1 ⟨tv, rv, rfl, _, _, hb1⟩
    go_wp2
    go_ret3
    exact ⟨_, _, _, rfl, hb1, .inl ⟨by rw [HU.out]; exact HC.out, by rw [HU.out]⟩⟩
  case pos =>
    by_cases c2 : Knot.rest l = []
    · have HU := hid (show Knot.uerr l = 0 by unfold Knot.uerr; rw [if_neg (by simpa using c1), if_pos c2])
      have HT := hid (show Knot.utext l = Knot.text l by unfold Knot.utext; rw [if_pos HU.out])
      have HTL := hid (show (Knot.utext l).length ≤ 100000 by rw [HT.out]; have := Knot.text_length l; omega)
      have hq : ((Knot.err l : Int) != 0) = false := by rw [bne_eq_false_iff_eq]; exact c1
      have HC2 := hid c2
      have HRD := hid hrd
      clear c1 c2 hrd
      cases txt
      · skip
        go_enter Try.func48, Try.ntmps48
        go_wp2_with fail
        refine (refnext_any p l w HRD.out (by omega)).mono ?_
        rintro e w1 ⟨tv, rv, rfl, hot, hor, hb1⟩
        obtain ⟨ra, rc, er, _⟩ := hor.rd
        rw [HC2.out] at er
        simp only [List.length_nil] at er
        subst er
        have hot2 := hot
        rw [← HT.out] at hot2
        obtain ⟨ta, tc, et, _⟩ := hot2.rd
        obtain ⟨tl, htl⟩ : ∃ tl, tl = (Knot.utext l).length := ⟨_, rfl⟩
        rw [← htl] at et
        subst et
        have HOT := hid hot2
        have HB1 := hid hb1
        have hs1 := hb1.size
        have HR0 := hid (show RefAt (w1.alloc (.cells #[.slice ta tl tc, .bool false] 123)) w1.heap.size w1.heap.size (.slice ta tl tc) (some (Knot.utext l)) from
          ⟨heap_alloc_new w1 _, hot2.rd.alloc _, .inr (fun k hk => (hot2.lt k hk).2), Nat.le_refl _⟩)
        clear hot hot2 hor hb1 htl
        go_wp2_with fail
        go_loopw [13, 32] (fun lv i wr => ∃ k : Nat, k ≤ n ∧ i = .int .i64 k ∧ Own64 wr (w1.heap.size + 1) lv (Note.iterN k (some (Knot.utext l))).1 ∧ (∃ v, RefAt wr w1.heap.size w1.heap.size v (Note.iterN k (some (Knot.utext l))).2) ∧ Below w.heap.size w wr ∧ w1.heap.size + 1 ≤ wr.heap.size) (fun _ i _ => n - (intOf i).toNat)
        case atStart => exact ⟨0, Nat.zero_le _, rfl, Own64.nil _ _, ⟨_, HR0.out⟩, HB1.out.alloc (by omega) _, by simp⟩
        case round =>
          obtain ⟨k, hk, rfl, how, ⟨v, hr⟩, hbw, hsw⟩ := hrel
          have HO := hid how
          have HR := hid hr
          have HB := hid hbw
          clear how hr hbw
          by_cases hlt : k < n
          · have HIT := hid (show Note.iterN (k + 1) (some (Knot.utext l)) = ((Note.iterN k (some (Knot.utext l))).1 ++ [(Ink.stNum (Note.iterN k (some (Knot.utext l))).2).1], (Ink.stNum (Note.iterN k (some (Knot.utext l))).2).2) from rfl)
            have HLN := hid (Note.iterN_length (some (Knot.utext l)) k)
            obtain ⟨s, hs⟩ : ∃ s, s = (Note.iterN k (some (Knot.utext l))).2 := ⟨_, rfl⟩
            obtain ⟨ns, hns⟩ : ∃ ns, ns = (Note.iterN k (some (Knot.utext l))).1 := ⟨_, rfl⟩
            rw [← hs] at HR HIT
            rw [← hns] at HO HIT HLN
            clear hs hns
            go_wp2_with fail
            refine (refeyenum_st _ _ v s wr HR.out).mono ?_
            rintro e wx ⟨rfl, v', hr', hk'⟩
            obtain ⟨x1, hx1⟩ : ∃ x1, x1 = (Ink.stNum s).1 := ⟨_, rfl⟩
            obtain ⟨s1, hs1'⟩ : ∃ s1, s1 = (Ink.stNum s).2 := ⟨_, rfl⟩
            rw [← hx1] at HIT ⊢
            rw [← hs1'] at HIT hr'
            have HR2 := hid (hr'.below ((Below.refl _ _).alloc (Nat.le_refl _) (.cells #[.int .u64 (x1 : Int)] 71)))
            have HB2 := hid ((HB.out.trans (hk'.below (B := w.heap.size) (by omega) (fun i hi => by omega))).alloc (by have := hk'.size; omega) (.cells #[.int .u64 (x1 : Int)] 71))
            have HO2 := hid ((HO.out.keeps hk' (fun j hj e => by have := (HO.out.lt j hj).1; omega)).below ((Below.refl _ _).alloc (Nat.le_refl _) (.cells #[.int .u64 (x1 : Int)] 71)))
            have HCE := hid (show (wx.alloc (.cells #[.int .u64 (x1 : Int)] 71)).cell? ⟨wx.heap.size, 0, none⟩ = some (.int .u64 (x1 : Int)) from (cell_of_row _ _ _ _ _ _ (heap_alloc_new wx _)).trans rfl)
            have hsx := hk'.size
            clear hr' hk' hx1 hs1'
            go_wp2_with (at_builtin; go_must (refine app64 rfl (.tmp 36) (.tmp 38) rfl (w1.heap.size + 1) wx.heap.size _ ns x1 rfl rfl HO2.out HCE.out (by rw [HLN.out]; omega) (by simp; omega) ?_); intro v1 wy ho1 hg1)
            have hR3 := HR2.out.keeps (Keeps.of_grown hg1) (fun e => by have := (HO2.out.lt _ e).1; omega) (fun j hj e => by have := (HO2.out.lt _ e).1; omega)
            have hB3 := HB2.out.grown hg1 (by simp; omega) (fun j hj => by have := (HO2.out.lt j hj).1; omega)
            have hs3 := hg1.size
            simp at hs3
            go_roundw
            case rel => exact ⟨k + 1, hlt, by go_num, by rw [HIT.out]; exact ho1, ⟨v', by rw [HIT.out]; exact hR3⟩, hB3, by omega⟩
            case measure => simp [intOf]; omega
          · obtain rfl : n = k := by omega
            have hr' := HR.out
            have HB2 := hid HB.out
            have HOW2 := hid HO.out
            obtain ⟨s', hs'⟩ : ∃ s', s' = (Note.iterN n (some (Knot.utext l))).2 := ⟨_, rfl⟩
            rw [← hs'] at hr'
            have HS := hid (show (Note.rowEnd false (Note.iterN n (some (Knot.utext l))).2).2 = s' from hs'.symm)
            have HRR := hid hr'
            clear hs' hr'
            by_cases c3 : s' = some []
            · subst c3
              go_wp2_with fail
              refine (refend_good _ _ _ _ HRR.out).mono ?_
              rintro e w' ⟨rfl, rfl⟩
              go_wp2
              go_ret3
              exact ⟨_, _, _, rfl, HB2.out, .inr (.inr ⟨HU.out, HS.out, HOW2.out.base (fun k hk => by have := (HOW2.out.lt k hk).1; omega), Own.nil _ _, rfl⟩)⟩
            · have HC3 := hid c3
              clear c3
              go_wp2_with fail
              refine (refend_bad _ _ _ _ _ HRR.out HC3.out).mono ?_
              rintro e w' ⟨rfl, rfl⟩
              go_wp2
              go_ret3
              exact ⟨_, _, _, rfl, HB2.out, .inr (.inl ⟨HU.out, by rw [HS.out]; exact HC3.out, rfl⟩)⟩
      · skip
        go_enter Try.func48, Try.ntmps48
        go_wp2_with fail
        refine (refnext_any p l w HRD.out (by omega)).mono ?_
        rintro e w1 ⟨tv, rv, rfl, hot, hor, hb1⟩
        obtain ⟨ra, rc, er, _⟩ := hor.rd
        rw [HC2.out] at er
        simp only [List.length_nil] at er
        subst er
        have hot2 := hot
        rw [← HT.out] at hot2
        obtain ⟨ta, tc, et, _⟩ := hot2.rd
        obtain ⟨tl, htl⟩ : ∃ tl, tl = (Knot.utext l).length := ⟨_, rfl⟩
        rw [← htl] at et
        subst et
        have HOT := hid hot2
        have HB1 := hid hb1
        have hs1 := hb1.size
        have HR0 := hid (show RefAt (w1.alloc (.cells #[.slice ta tl tc, .bool false] 123)) w1.heap.size w1.heap.size (.slice ta tl tc) (some (Knot.utext l)) from
          ⟨heap_alloc_new w1 _, hot2.rd.alloc _, .inr (fun k hk => (hot2.lt k hk).2), Nat.le_refl _⟩)
        clear hot hot2 hor hb1 htl
        go_wp2_with fail
        go_loopw [13, 32] (fun lv i wr => ∃ k : Nat, k ≤ n ∧ i = .int .i64 k ∧ Own64 wr (w1.heap.size + 1) lv (Note.iterN k (some (Knot.utext l))).1 ∧ (∃ v, RefAt wr w1.heap.size w1.heap.size v (Note.iterN k (some (Knot.utext l))).2) ∧ Below w.heap.size w wr ∧ w1.heap.size + 1 ≤ wr.heap.size) (fun _ i _ => n - (intOf i).toNat)
        case atStart => exact ⟨0, Nat.zero_le _, rfl, Own64.nil _ _, ⟨_, HR0.out⟩, HB1.out.alloc (by omega) _, by simp⟩
        case round =>
          obtain ⟨k, hk, rfl, how, ⟨v, hr⟩, hbw, hsw⟩ := hrel
          have HO := hid how
          have HR := hid hr
          have HB := hid hbw
          clear how hr hbw
          by_cases hlt : k < n
          · have HIT := hid (show Note.iterN (k + 1) (some (Knot.utext l)) = ((Note.iterN k (some (Knot.utext l))).1 ++ [(Ink.stNum (Note.iterN k (some (Knot.utext l))).2).1], (Ink.stNum (Note.iterN k (some (Knot.utext l))).2).2) from rfl)
            have HLN := hid (Note.iterN_length (some (Knot.utext l)) k)
            obtain ⟨s, hs⟩ : ∃ s, s = (Note.iterN k (some (Knot.utext l))).2 := ⟨_, rfl⟩
            obtain ⟨ns, hns⟩ : ∃ ns, ns = (Note.iterN k (some (Knot.utext l))).1 := ⟨_, rfl⟩
            rw [← hs] at HR HIT
            rw [← hns] at HO HIT HLN
            clear hs hns
            go_wp2_with fail
            refine (refeyenum_st _ _ v s wr HR.out).mono ?_
            rintro e wx ⟨rfl, v', hr', hk'⟩
            obtain ⟨x1, hx1⟩ : ∃ x1, x1 = (Ink.stNum s).1 := ⟨_, rfl⟩
            obtain ⟨s1, hs1'⟩ : ∃ s1, s1 = (Ink.stNum s).2 := ⟨_, rfl⟩
            rw [← hx1] at HIT ⊢
            rw [← hs1'] at HIT hr'
            have HR2 := hid (hr'.below ((Below.refl _ _).alloc (Nat.le_refl _) (.cells #[.int .u64 (x1 : Int)] 71)))
            have HB2 := hid ((HB.out.trans (hk'.below (B := w.heap.size) (by omega) (fun i hi => by omega))).alloc (by have := hk'.size; omega) (.cells #[.int .u64 (x1 : Int)] 71))
            have HO2 := hid ((HO.out.keeps hk' (fun j hj e => by have := (HO.out.lt j hj).1; omega)).below ((Below.refl _ _).alloc (Nat.le_refl _) (.cells #[.int .u64 (x1 : Int)] 71)))
            have HCE := hid (show (wx.alloc (.cells #[.int .u64 (x1 : Int)] 71)).cell? ⟨wx.heap.size, 0, none⟩ = some (.int .u64 (x1 : Int)) from (cell_of_row _ _ _ _ _ _ (heap_alloc_new wx _)).trans rfl)
            have hsx := hk'.size
            clear hr' hk' hx1 hs1'
            go_wp2_with (at_builtin; go_must (refine app64 rfl (.tmp 36) (.tmp 38) rfl (w1.heap.size + 1) wx.heap.size _ ns x1 rfl rfl HO2.out HCE.out (by rw [HLN.out]; omega) (by simp; omega) ?_); intro v1 wy ho1 hg1)
            have hR3 := HR2.out.keeps (Keeps.of_grown hg1) (fun e => by have := (HO2.out.lt _ e).1; omega) (fun j hj e => by have := (HO2.out.lt _ e).1; omega)
            have hB3 := HB2.out.grown hg1 (by simp; omega) (fun j hj => by have := (HO2.out.lt j hj).1; omega)
            have hs3 := hg1.size
            simp at hs3
            go_roundw
            case rel => exact ⟨k + 1, hlt, by go_num, by rw [HIT.out]; exact ho1, ⟨v', by rw [HIT.out]; exact hR3⟩, hB3, by omega⟩
            case measure => simp [intOf]; omega
          · obtain rfl : n = k := by omega
            have HLE := hid (show (((Note.iterN n (some (Knot.utext l))).2).getD []).length ≤ 1000000 from by have := Note.iterN_le (some (Knot.utext l)) n; have := HTL.out; simp only [Option.getD_some] at *; omega)
            go_wp2_with fail
            refine (reftext_st _ _ v _ wr HR.out HLE.out).mono ?_
            rintro e wx ⟨u, rfl, hou, v', hr', hk⟩
            have HB2 := hid (HB.out.trans (hk.below (B := w.heap.size) (by omega) (fun i hi => by omega)))
            have HOW2 := hid (HO.out.keeps hk (fun j hj e => by have := (HO.out.lt j hj).1; omega))
            have hsx := hk.size
            clear hk
            obtain ⟨s', hs'⟩ : ∃ s', s' = (Ink.stText (Note.iterN n (some (Knot.utext l))).2).2 := ⟨_, rfl⟩
            rw [← hs'] at hr'
            have HS := hid (show (Note.rowEnd true (Note.iterN n (some (Knot.utext l))).2).2 = s' from hs'.symm)
            have HRR := hid hr'
            clear hs' hr'
            by_cases c3 : s' = some []
            · subst c3
              go_wp2_with fail
              refine (refend_good _ _ _ _ HRR.out).mono ?_
              rintro e w' ⟨rfl, rfl⟩
              go_wp2
              go_ret3
              exact ⟨_, _, _, rfl, HB2.out, .inr (.inr ⟨HU.out, HS.out, HOW2.out.base (fun k hk => by have := (HOW2.out.lt k hk).1; omega), hou.base (fun k hk => by have := (hou.lt k hk).1; omega), rfl⟩)⟩
            · have HC3 := hid c3
              clear c3
              go_wp2_with fail
              refine (refend_bad _ _ _ _ _ HRR.out HC3.out).mono ?_
              rintro e w' ⟨rfl, rfl⟩
              go_wp2
              go_ret3
              exact ⟨_, _, _, rfl, HB2.out, .inr (.inl ⟨HU.out, by rw [HS.out]; exact HC3.out, rfl⟩)⟩
    · have HU := hid (show Knot.uerr l = 4 by unfold Knot.uerr; rw [if_neg (by simpa using c1), if_neg c2])
      have hq : ((Knot.err l : Int) != 0) = false := by rw [bne_eq_false_iff_eq]; exact c1
      have hrl : 0 < (Knot.rest l).length := List.length_pos_iff.2 c2
      have HRD := hid hrd
      clear c1 c2 hrd
      go_enter Try.func48, Try.ntmps48
      go_wp2_with fail
      refine (refnext_any p l w HRD.out (by omega)).mono ?_
      rintro e w1 ⟨tv, rv, rfl, _, hor, hb1⟩
      obtain ⟨ra, rc, er, _⟩ := hor.rd
      subst er
      clear hor
      go_wp2
      go_ret3
      exact ⟨_, _, _, rfl, hb1, .inl ⟨by rw [HU.out]; omega, by rw [HU.out]⟩⟩

end Go.Proofs.Ytafpgglebjllbaa
