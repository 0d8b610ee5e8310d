/-
  Layer 5: a slab, sector by sector: what each call makes of each sector (plain).
-/
import Derived.Test.YtbagpckiegpalaaSlabX
namespace Go.Proofs.Ytbagpckiegpalaa
open Go.RowKit

theorem sect_get (l : List UInt8) (i j : Nat) : (sect l i)[j]? = if j < 128 then l[i * 128 + j]? else none := by
  unfold sect
  rw [List.getElem?_take, List.getElem?_drop]

theorem splice_get {α : Type} (L : List α) (o : Nat) (cs : List α) (h : o + cs.length ≤ L.length) (k : Nat) : (splice L o cs)[k]? = if k < o then L[k]? else if k < o + cs.length then cs[k - o]? else L[k]? := by
  unfold splice
  by_cases h1 : k < o
  · rw [if_pos h1, List.getElem?_append_left (by rw [List.length_take]; omega), List.getElem?_take_of_lt h1]
  · rw [if_neg h1, List.getElem?_append_right (by rw [List.length_take]; omega), List.length_take, Nat.min_eq_left (by omega)]
    by_cases h2 : k < o + cs.length
    · rw [if_pos h2, List.getElem?_append_left (by omega)]
    · rw [if_neg h2, List.getElem?_append_right (by omega), List.getElem?_drop]
      congr 1
      omega

theorem sect_splice_other (L : List UInt8) (n i j f : Nat) (m : List UInt8) (hL : L.length = n * 128) (hi : i < n) (hf : f + m.length ≤ 128) (hj : j ≠ i) : sect (splice L (i * 128 + f) m) j = sect L j := by
  apply List.ext_getElem?
  intro k
  rw [sect_get, sect_get]
  by_cases hk : k < 128
  · rw [if_pos hk, if_pos hk, splice_get _ _ _ (by omega)]
    by_cases h1 : j * 128 + k < i * 128 + f
    · rw [if_pos h1]
    · rw [if_neg h1, if_neg (by omega)]
  · rw [if_neg hk, if_neg hk]

theorem sect_splice_same (L : List UInt8) (n i f : Nat) (m : List UInt8) (hL : L.length = n * 128) (hi : i < n) (hf : f + m.length ≤ 128) : sect (splice L (i * 128 + f) m) i = splice (sect L i) f m := by
  apply List.ext_getElem?
  intro k
  have hs := sect_length L i n hL hi
  rw [sect_get, splice_get _ _ _ (by omega)]
  by_cases hk : k < 128
  · rw [if_pos hk, splice_get _ _ _ (by omega)]
    by_cases h1 : k < f
    · rw [if_pos (by omega), if_pos h1, sect_get, if_pos hk]
    · rw [if_neg (by omega), if_neg h1]
      by_cases h2 : k < f + m.length
      · rw [if_pos (by omega), if_pos h2]
        congr 1
        omega
      · rw [if_neg (by omega), if_neg h2, sect_get, if_pos hk]
  · rw [if_neg hk, List.getElem?_eq_none (by rw [splice_length _ _ _ (by omega)]; omega)]

theorem splice_whole (a q : List UInt8) (h : a.length = q.length) : splice a 0 q = q := by
  unfold splice
  rw [List.drop_eq_nil_of_le (by omega)]
  simp

theorem put_splice (s : Sl) (i : Nat) (q : List UInt8) (hq : q.length = 128) : (s.put i q).now = splice s.now (i * 128 + 0) q := by simp only [Sl.put, splice, hq, Nat.add_zero]
theorem doneOne_splice (now d : List UInt8) (i n : Nat) (hn : now.length = n * 128) (hi : i < n) : doneOne now d i = splice d (i * 128 + 0) (sect now i) := by
  simp only [doneOne, splice, sect_length now i n hn hi, Nat.add_zero]

/-- Write, sector by sector. -/
theorem put_sect (s : Sl) (i j : Nat) (q : List UInt8) (hn : s.now.length = s.n * 128) (hi : i < s.n) (hq : q.length = 128) : sect (s.put i q).now j = if j = i then q else sect s.now j := by
  rw [put_splice s i q hq]
  by_cases h : j = i
  · subst h
    rw [if_pos rfl, sect_splice_same _ s.n _ _ _ hn hi (by omega)]
    exact splice_whole _ _ (by rw [sect_length _ _ _ hn hi, hq])
  · rw [if_neg h, sect_splice_other _ s.n _ _ _ _ hn hi (by omega) h]

theorem doneOne_sect (now d : List UInt8) (i j n : Nat) (hn : now.length = n * 128) (hd : d.length = n * 128) (hi : i < n) : sect (doneOne now d i) j = if j = i then sect now j else sect d j := by
  have hl := sect_length now i n hn hi
  rw [doneOne_splice now d i n hn hi]
  by_cases h : j = i
  · subst h
    rw [if_pos rfl, sect_splice_same _ n _ _ _ hd hi (by omega)]
    exact splice_whole _ _ (by rw [sect_length _ _ _ hd hi, hl])
  · rw [if_neg h, sect_splice_other _ n _ _ _ _ hd hi (by omega) h]

/-- Flush, sector by sector. -/
theorem doneAll_sect (now : List UInt8) (j n : Nat) (hn : now.length = n * 128) : ∀ (ws : List (Nat × List UInt8)) (d : List UInt8), d.length = n * 128 → (∀ x ∈ ws, x.1 < n) → sect (doneAll now d ws) j = if (ws.any fun x => x.1 == j) then sect now j else sect d j
  | [], d, _, _ => by simp [doneAll]
  | x :: ws, d, hd, h => by
    have hx := h x (by simp)
    have := doneAll_sect now j n hn ws (doneOne now d x.1) (doneOne_length now d x.1 n hn hd hx) (fun y hy => h y (by simp [hy]))
    show sect (doneAll now (doneOne now d x.1) ws) j = _
    rw [this, doneOne_sect now d x.1 j n hn hd hx, List.any_cons]
    by_cases h1 : (ws.any fun x => x.1 == j) = true
    · simp [h1]
    · by_cases h2 : j = x.1
      · simp [h2]
      · have : (x.1 == j) = false := by simp; exact fun e => h2 e.symm
        simp [h1, h2, this]

theorem doneAll_other (now d : List UInt8) (ws : List (Nat × List UInt8)) (j n : Nat) (hn : now.length = n * 128) (hd : d.length = n * 128) (hw : ∀ x ∈ ws, x.1 < n) (hj : ∀ x ∈ ws, x.1 ≠ j) : sect (doneAll now d ws) j = sect d j := by
  rw [doneAll_sect now j n hn ws d hd hw, if_neg]
  rw [List.any_eq_true]
  rintro ⟨x, hx, he⟩
  exact hj x hx (by simpa using he)

/-- One write's fate, sector by sector. -/
def tornOne (fates : List UInt8) (cut : Nat) (k : Nat) (q d : List UInt8) : List UInt8 := splice d (keptFrom (fateOf fates k) cut) ((q.drop (keptFrom (fateOf fates k) cut)).take (keptUpto (fateOf fates k) cut - keptFrom (fateOf fates k) cut))

theorem crashAt_sect (fates : List UInt8) (cut : Nat) (d : List UInt8) (k j n : Nat) (x : Nat × List UInt8) (hc : cut ≤ 128) (hd : d.length = n * 128) (hx : x.1 < n) (hx2 : x.2.length = 128) : sect (crashAt fates cut d k x) j = if j = x.1 then tornOne fates cut k x.2 (sect d j) else sect d j := by
  have := kept_le (fateOf fates k) cut hc
  have hl : ((x.2.drop (keptFrom (fateOf fates k) cut)).take (keptUpto (fateOf fates k) cut - keptFrom (fateOf fates k) cut)).length = keptUpto (fateOf fates k) cut - keptFrom (fateOf fates k) cut := by rw [List.length_take, List.length_drop]; omega
  unfold crashAt crashOne
  by_cases h : j = x.1
  · subst h
    rw [if_pos rfl, sect_splice_same _ n _ _ _ hd hx (by omega)]
    rfl
  · rw [if_neg h, sect_splice_other _ n _ _ _ _ hd hx (by omega) h]

/-- What becomes of one sector at a crash, behind k writes under way. -/
def tornUpto (fates : List UInt8) (cut : Nat) (ws : List (Nat × List UInt8)) (j : Nat) (d : List UInt8) (k : Nat) : List UInt8 :=
  (List.range k).foldl (fun d i => if j = (ws.getD i (0, [])).1 then tornOne fates cut i (ws.getD i (0, [])).2 d else d) d
theorem tornUpto_succ (fates : List UInt8) (cut : Nat) (ws : List (Nat × List UInt8)) (j : Nat) (d : List UInt8) (k : Nat) : tornUpto fates cut ws j d (k + 1) = if j = (ws.getD k (0, [])).1 then tornOne fates cut k (ws.getD k (0, [])).2 (tornUpto fates cut ws j d k) else tornUpto fates cut ws j d k := by
  unfold tornUpto
  rw [List.range_succ, List.foldl_append]
  rfl

theorem getD_mem {α : Type} (l : List α) (k : Nat) (z : α) (h : k < l.length) : l.getD k z ∈ l := by
  rw [List.getD_eq_getElem?_getD, List.getElem?_eq_getElem h]
  exact List.getElem_mem _

theorem crashUpto_sect (fates : List UInt8) (cut : Nat) (ws : List (Nat × List UInt8)) (d : List UInt8) (j n : Nat) (hc : cut ≤ 128) (hd : d.length = n * 128) (hw : ∀ x ∈ ws, x.1 < n ∧ x.2.length = 128) : ∀ k, k ≤ ws.length → sect (crashUpto fates cut ws d k) j = tornUpto fates cut ws j (sect d j) k
  | 0, _ => rfl
  | k + 1, hk => by
    have hm := getD_mem ws k (0, []) (by omega)
    rw [crashUpto_succ, tornUpto_succ, crashAt_sect fates cut _ k j n _ hc (crashUpto_length fates cut ws d n hc hd hw k (by omega)) (hw _ hm).1 (hw _ hm).2, crashUpto_sect fates cut ws d j n hc hd hw k (by omega)]

/-- Crash, sector by sector. -/
theorem crash_sect (s : Sl) (h : s.ok) (fates : List UInt8) (cut : Int) (j : Nat) : sect (s.crash fates cut).done j = tornUpto fates (cutOf cut) s.way j (sect s.done j) s.way.length ∧ sect (s.crash fates cut).now j = if (s.way.any fun x => x.1 == j) then tornUpto fates (cutOf cut) s.way j (sect s.done j) s.way.length else sect s.now j := by
  obtain ⟨o1, o2, o3, o4, o5, o6, o7⟩ := h
  have hl := crashUpto_length fates (cutOf cut) s.way s.done s.n (cutOf_le cut) o4 o5 s.way.length (Nat.le_refl _)
  have h1 := crashUpto_sect fates (cutOf cut) s.way s.done j s.n (cutOf_le cut) o4 o5 s.way.length (Nat.le_refl _)
  refine ⟨h1, ?_⟩
  show sect (doneAll _ _ _) j = _
  rw [doneAll_sect _ j s.n hl s.way s.now o3 (fun x hx => (o5 x hx).1), h1]

theorem tornUpto_other (fates : List UInt8) (cut : Nat) (ws : List (Nat × List UInt8)) (j : Nat) (d : List UInt8) (hj : ∀ x ∈ ws, x.1 ≠ j) : ∀ k, k ≤ ws.length → tornUpto fates cut ws j d k = d
  | 0, _ => rfl
  | k + 1, hk => by
    rw [tornUpto_succ, if_neg (fun e => hj _ (getD_mem ws k (0, []) (by omega)) e.symm)]
    exact tornUpto_other fates cut ws j d hj k (by omega)

/-- Which sectors agree: what is read is what was written last, or what is done. -/
def lastAt (ws : List (Nat × List UInt8)) (j : Nat) (d : List UInt8) : List UInt8 := ws.foldl (fun p x => if x.1 = j then x.2 else p) d
def Sl.fits (s : Sl) : Prop := ∀ j, j < s.n → sect s.now j = lastAt s.way j (sect s.done j)

theorem lastAt_snoc (ws : List (Nat × List UInt8)) (x : Nat × List UInt8) (j : Nat) (d : List UInt8) : lastAt (ws ++ [x]) j d = if x.1 = j then x.2 else lastAt ws j d := by
  unfold lastAt
  rw [List.foldl_append]
  rfl

theorem lastAt_any (ws : List (Nat × List UInt8)) (j : Nat) : ∀ d, (ws.any fun x => x.1 == j) = false → lastAt ws j d = d := by
  induction ws with
  | nil => intro d _; rfl
  | cons x ws ih =>
    intro d h
    rw [List.any_cons, Bool.or_eq_false_iff] at h
    unfold lastAt
    rw [List.foldl_cons, if_neg (by simpa using h.1)]
    exact ih d h.2

theorem Sl.new_fits (n : Nat) : (Sl.new n).fits := fun _ _ => rfl
theorem Sl.step_fits {s : Sl} (h : s.fits) : s.step.fits := h
theorem Sl.put_fits {s : Sl} (h : s.fits) (ho : s.ok) (i : Nat) (q : List UInt8) (hi : i < s.n) (hq : q.length = 128) : (s.put i q).fits := by
  intro j hj
  rw [put_sect s i j q ho.2.2.1 hi hq]
  show _ = lastAt (s.way ++ [(i, q)]) j (sect s.done j)
  rw [lastAt_snoc]
  by_cases e : j = i
  · subst e; simp
  · rw [if_neg e, if_neg (fun h => e h.symm)]
    exact h j hj
theorem Sl.flush_fits {s : Sl} (h : s.fits) (ho : s.ok) : s.flush.fits := by
  obtain ⟨o1, o2, o3, o4, o5, o6, o7⟩ := ho
  intro j hj
  show sect s.now j = sect (doneAll s.now s.done s.way) j
  rw [doneAll_sect s.now j s.n o3 s.way s.done o4 (fun x hx => (o5 x hx).1)]
  by_cases e : (s.way.any fun x => x.1 == j) = true
  · rw [if_pos e]
  · rw [if_neg e, h j hj]
    exact lastAt_any _ _ _ (eq_false_of_ne_true e)
theorem Sl.crash_fits {s : Sl} (h : s.fits) (ho : s.ok) (fates : List UInt8) (cut : Int) : (s.crash fates cut).fits := by
  intro j hj
  have hc := crash_sect s ho fates cut j
  show sect (s.crash fates cut).now j = sect (s.crash fates cut).done j
  rw [hc.1, hc.2]
  by_cases e : (s.way.any fun x => x.1 == j) = true
  · rw [if_pos e]
  · rw [if_neg e, h j hj, lastAt_any _ _ _ (eq_false_of_ne_true e), tornUpto_other _ _ _ _ _ (fun x hx e2 => e (List.any_eq_true.2 ⟨x, hx, by simpa using e2⟩)) _ (Nat.le_refl _)]

theorem Sl.arm_fits {s : Sl} (h : s.fits) (n : Int) : (s.arm n).1.fits := by unfold Sl.arm; split <;> exact h
theorem Sl.write_fits {s : Sl} (h : s.fits) (ho : s.ok) (i : Int) (p : List UInt8) : (s.write i p).1.fits := by
  unfold Sl.write
  split
  · exact h
  · split
    · exact h
    · split
      · exact h
      · rename_i h1 h2 h3
        have hb : 0 ≤ i ∧ i < (s.n : Int) := by simpa [Sl.has] using h1
        exact Sl.put_fits h ho i.toNat (pad p) (by omega) (pad_length p (by omega))
theorem Sl.flushed_fits {s : Sl} (h : s.fits) (ho : s.ok) : s.flushed.1.fits := by
  unfold Sl.flushed
  split
  · exact h
  · split
    · exact h
    · exact Sl.flush_fits (s := s.step) h ⟨ho.1, ho.2.1, ho.2.2.1, ho.2.2.2.1, ho.2.2.2.2.1, ho.2.2.2.2.2.1, by have := ho.2.2.2.2.2.2; simp only [Sl.step]; omega⟩

theorem mn128 (L K : Nat) (hK : K = min L 128) : (if (128 : Int) < (L : Int) then (128 : Int) else (L : Int)) = (K : Int) := by
  subst hK
  split <;> omega

theorem u8_of {z : Int} (h : (Lit.int .u8 z).wf = true) : ∃ f : UInt8, z = (f.toNat : Int) ∧ True := by
  have hz : 0 ≤ z ∧ z ≤ 255 := by simp [Lit.wf] at h; exact h
  refine ⟨UInt8.ofNat z.toNat, ?_, trivial⟩
  rw [UInt8.toNat_ofNat']
  omega

theorem own_head {w : World} {base : Nat} {a : Option Addr} {n c : Nat} {l : List UInt8} (h : Own w base (.slice a n c) l) (h0 : 0 < l.length) : ∃ g c', Value.slice a n c = .slice (some ⟨g, 0, none⟩) n c' := by
  rcases h.shape with ⟨_, rfl⟩ | ⟨g, cap, e, _⟩
  · cases h0
  · simp only [Value.slice.injEq] at e
    obtain ⟨rfl, rfl, rfl⟩ := e
    exact ⟨g, c, rfl⟩

theorem rd_take {w : World} {a : Option Addr} {n c : Nat} {l : List UInt8} (h : Rd w (.slice a n c) l) (k : Nat) (hk : k ≤ l.length) : Rd w (.slice a k c) (l.take k) := by
  obtain ⟨a', c', e, h1, h2, h3, h4⟩ := h
  simp only [Value.slice.injEq] at e
  obtain ⟨rfl, rfl, rfl⟩ := e
  refine ⟨a, c, by rw [List.length_take, Nat.min_eq_left hk], by rw [List.length_take]; omega, h2, h3, fun x hx j hj => ?_⟩
  rw [List.length_take] at hj
  rw [h4 x hx j (by omega)]
  simp only [List.getD_eq_getElem?_getD]
  rw [List.getElem?_take_of_lt (by omega)]

theorem rd_drop {w : World} {g n c : Nat} {l : List UInt8} (h : Rd w (.slice (some ⟨g, 0, none⟩) n c) l) (k : Nat) (hk : k ≤ l.length) (A : Option Addr) (hA1 : c = k → A = some ⟨g, 0, none⟩) (hA2 : ¬ c = k → A = some ⟨g, k, none⟩) : Rd w (.slice A (n - k) (c - k)) (l.drop k) := by
  obtain ⟨a', c', e, h1, h2, h3, h4⟩ := h
  simp only [Value.slice.injEq] at e
  obtain ⟨rfl, rfl, rfl⟩ := e
  refine ⟨A, c - k, by rw [List.length_drop], by rw [List.length_drop]; omega, (by omega), (fun hn => ?_), fun x hx j hj => ?_⟩
  · by_cases hc : c = k
    · rw [hA1 hc] at hn; cases hn
    · rw [hA2 hc] at hn; cases hn
  · rw [List.length_drop] at hj
    rw [hA2 (by omega)] at hx
    cases hx
    have := h4 _ rfl (k + j) (by omega)
    rw [Addr.add_lit, Nat.zero_add] at this
    rw [Addr.add_lit, this]
    simp only [List.getD_eq_getElem?_getD, List.getElem?_drop]

end Go.Proofs.Ytbagpckiegpalaa
