/-
  Layer 6: a map of places, by what is taken.
-/
import Derived.Test.YtbagpckiegpalaaBmL
namespace Go.Proofs.Ytbagpckiegpalaa
open Go.RowKit
set_option linter.unusedVariables false
set_option linter.unusedSimpArgs false

theorem runs_len {F : List (Int × Int)} {lo hi : Int} (h : RunsFrom lo F hi) (hl : lo ≤ hi) : (F.length : Int) ≤ hi - lo := by
  induction F generalizing lo with
  | nil => simp; omega
  | cons x l ih =>
    obtain ⟨a, b⟩ := x
    obtain ⟨h1, h2, h3, h4⟩ := h
    simp only [List.length_cons]
    by_cases hb : b + 1 ≤ hi
    · have := ih h4 hb; omega
    · cases l with
      | nil => simp; omega
      | cons y m => obtain ⟨c, d⟩ := y; obtain ⟨k1, k2, k3, _⟩ := h4; omega

theorem runs_sum {F : List (Int × Int)} {lo hi : Int} (h : RunsFrom lo F hi) (hl : lo ≤ hi + 1) : 0 ≤ runSum F ∧ runSum F ≤ hi + 1 - lo := by
  induction F generalizing lo with
  | nil => simp only [runSum]; omega
  | cons x l ih =>
    obtain ⟨a, b⟩ := x
    obtain ⟨h1, h2, h3, h4⟩ := h
    simp only [runSum]
    have := ih h4 (by omega)
    omega

theorem RunsFrom.wide {F : List (Int × Int)} {lo hi hi' : Int} (h : RunsFrom lo F hi) (hh : hi ≤ hi') : RunsFrom lo F hi' := by
  induction F generalizing lo with
  | nil => trivial
  | cons x l ih => obtain ⟨a, b⟩ := x; obtain ⟨h1, h2, h3, h4⟩ := h; exact ⟨h1, h2, by omega, ih h4⟩

/-- How the place i is joined with the run ahead of it, and with the one behind it. -/
def HL (F : List (Int × Int)) (K K1 : Nat) (i jf : Int) (jl : Bool) : Prop := (jl = false ∧ K1 = K ∧ jf = i ∧ (K = 0 ∨ ∃ k0 f0 u0, K = k0 + 1 ∧ F[k0]? = some (f0, u0) ∧ u0 ≠ i)) ∨ (jl = true ∧ ∃ f0, K = K1 + 1 ∧ F[K1]? = some (f0, i) ∧ jf = f0)
def HRt (F : List (Int × Int)) (K K2 : Nat) (i ju : Int) (jr : Bool) : Prop := (jr = false ∧ K2 = K ∧ ju = i + 1 ∧ (K = F.length ∨ ∃ f1 u1, F[K]? = some (f1, u1) ∧ f1 ≠ i + 1)) ∨ (jr = true ∧ K2 = K + 1 ∧ F[K]? = some (i + 1, ju))

theorem freeR_ex {F : List (Int × Int)} {lo hi i : Int} (h : RunsFrom lo F hi) (hp : ¬ FreeIn F i) :
    ∃ K1 K2 jf ju jl jr, HL F (firstEnd F i) K1 i jf jl ∧ HRt F (firstEnd F i) K2 i ju jr ∧ F.take K1 ++ [(jf, ju)] ++ F.drop K2 = freeR F i := by
  induction F generalizing lo with
  | nil => exact ⟨0, 0, i, i + 1, false, false, .inl ⟨rfl, rfl, rfl, .inl rfl⟩, .inl ⟨rfl, rfl, rfl, .inl rfl⟩, rfl⟩
  | cons x l ih =>
    obtain ⟨a, b⟩ := x
    obtain ⟨k1, k2, k3, k4⟩ := h
    have hn1 : ¬ (a ≤ i ∧ i < b) := fun hh => hp (.inl hh)
    have hn2 : ¬ FreeIn l i := fun hh => hp (.inr hh)
    by_cases hb : i < b
    · have hK : firstEnd ((a, b) :: l) i = 0 := by simp only [firstEnd, if_pos hb]
      rw [hK]
      by_cases hc : a = i + 1
      · refine ⟨0, 1, i, b, false, true, .inl ⟨rfl, rfl, rfl, .inl rfl⟩, .inr ⟨rfl, rfl, by rw [hc]; rfl⟩, ?_⟩
        simp only [freeR, if_pos hb, if_pos hc]; rfl
      · refine ⟨0, 0, i, i + 1, false, false, .inl ⟨rfl, rfl, rfl, .inl rfl⟩, .inl ⟨rfl, rfl, rfl, .inr ⟨a, b, rfl, hc⟩⟩, ?_⟩
        simp only [freeR, if_pos hb, if_neg hc]; rfl
    · have hK : firstEnd ((a, b) :: l) i = firstEnd l i + 1 := by simp only [firstEnd, if_neg hb]
      rw [hK]
      by_cases hc : b = i
      · cases l with
        | nil =>
          refine ⟨0, 1, a, i + 1, true, false, .inr ⟨rfl, a, rfl, by rw [hc]; rfl, rfl⟩, .inl ⟨rfl, rfl, rfl, .inl rfl⟩, ?_⟩
          simp only [freeR, if_neg hb, if_pos hc]; rfl
        | cons y l' =>
          obtain ⟨c, d⟩ := y
          obtain ⟨j1, j2, j3, j4⟩ := k4
          have hK2 : firstEnd ((c, d) :: l') i = 0 := by simp only [firstEnd, if_pos (show i < d by omega)]
          rw [hK2]
          by_cases hd : c = i + 1
          · refine ⟨0, 2, a, d, true, true, .inr ⟨rfl, a, rfl, by rw [hc]; rfl, rfl⟩, .inr ⟨rfl, rfl, by rw [hd]; rfl⟩, ?_⟩
            simp only [freeR, if_neg hb, if_pos hc, if_pos hd]; rfl
          · refine ⟨0, 1, a, i + 1, true, false, .inr ⟨rfl, a, rfl, by rw [hc]; rfl, rfl⟩, .inl ⟨rfl, rfl, rfl, .inr ⟨c, d, rfl, hd⟩⟩, ?_⟩
            simp only [freeR, if_neg hb, if_pos hc, if_neg hd]; rfl
      · obtain ⟨K1, K2, jf, ju, jl, jr, hL, hR, he⟩ := ih k4 hn2
        refine ⟨K1 + 1, K2 + 1, jf, ju, jl, jr, ?_, ?_, ?_⟩
        · rcases hL with ⟨e1, e2, e3, e4⟩ | ⟨e1, f0, e2, e3, e4⟩
          · refine .inl ⟨e1, by rw [e2], e3, .inr ?_⟩
            rcases e4 with e4 | ⟨k0, f0, u0, e5, e6, e7⟩
            · exact ⟨0, a, b, by rw [e4], rfl, hc⟩
            · exact ⟨k0 + 1, f0, u0, by rw [e5], by rw [List.getElem?_cons_succ]; exact e6, e7⟩
          · exact .inr ⟨e1, f0, by rw [e2], by rw [List.getElem?_cons_succ]; exact e3, e4⟩
        · rcases hR with ⟨e1, e2, e3, e4⟩ | ⟨e1, e2, e3⟩
          · refine .inl ⟨e1, by rw [e2], e3, ?_⟩
            rcases e4 with e4 | ⟨f1, u1, e5, e6⟩
            · exact .inl (by rw [e4]; rfl)
            · exact .inr ⟨f1, u1, by rw [List.getElem?_cons_succ]; exact e5, e6⟩
          · exact .inr ⟨e1, by rw [e2], by rw [List.getElem?_cons_succ]; exact e3⟩
        · simp only [freeR, if_neg hb, if_neg hc]
          rw [← he]
          rfl

/-- A map of N places with the runs F of free ones. -/
def MpF (w : World) (lo b N : Nat) (F : List (Int × Int)) : Prop :=
  RunsFrom 0 F N ∧ ((N = 0 ∧ F = [] ∧ ME w lo b) ∨ (1 ≤ N ∧ ∃ g C sp, MG w lo b g (N : Int) (runSum F) F C sp ∧ C ≤ maxLen))

/-- T tells of each place whether it is taken. -/
def Link (T : List Bool) (F : List (Int × Int)) : Prop := ∀ p : Nat, p < T.length → (T[p]? = some false ↔ FreeIn F p)

def MpAt (w : World) (lo b : Nat) (T : List Bool) : Prop := ∃ F, MpF w lo b T.length F ∧ Link T F ∧ (T.count false : Int) = runSum F

def mapTs : List TypeId := [114, 116]

theorem MpF.below {w w' : World} {lo b N : Nat} {F : List (Int × Int)} (h : MpF w lo b N F) (hb : Below w.heap.size w w') : MpF w' lo b N F := by
  obtain ⟨h1, h2⟩ := h
  refine ⟨h1, ?_⟩
  rcases h2 with ⟨e1, e2, e3⟩ | ⟨e1, g, C, sp, e2, e3⟩
  · exact .inl ⟨e1, e2, e3.below hb⟩
  · exact .inr ⟨e1, g, C, sp, e2.below hb, e3⟩

theorem MpAt.below {w w' : World} {lo b : Nat} {T : List Bool} (h : MpAt w lo b T) (hb : Below w.heap.size w w') : MpAt w' lo b T := by
  obtain ⟨F, h1, h2, h3⟩ := h
  exact ⟨F, h1.below hb, h2, h3⟩

/-- A block of another type is written: the map stays. -/
theorem MpF.keep {w w' : World} {lo b N : Nat} {F : List (Int × Int)} (h : MpF w lo b N F) (hb : ∀ (k : Nat) (cs : Array Value) (t : TypeId), w.heap[k]? = some (.cells cs t (0, 0)) → t ∈ mapTs → w'.heap[k]? = w.heap[k]?) : MpF w' lo b N F := by
  obtain ⟨h1, h2⟩ := h
  refine ⟨h1, ?_⟩
  rcases h2 with ⟨e1, e2, e3⟩ | ⟨e1, g, C, sp, e2, e3⟩
  · exact .inl ⟨e1, e2, ⟨(hb _ _ _ e3.map (by simp [mapTs])).trans e3.map, e3.lob⟩⟩
  · exact .inr ⟨e1, g, C, sp, ⟨(hb _ _ _ e2.map (by simp [mapTs])).trans e2.map, (hb _ _ _ e2.run (by simp [mapTs])).trans e2.run, e2.lob, e2.log, e2.cap⟩, e3⟩

theorem MpAt.keep {w w' : World} {lo b : Nat} {T : List Bool} (h : MpAt w lo b T) (hb : ∀ (k : Nat) (cs : Array Value) (t : TypeId), w.heap[k]? = some (.cells cs t (0, 0)) → t ∈ mapTs → w'.heap[k]? = w.heap[k]?) : MpAt w' lo b T := by
  obtain ⟨F, h1, h2, h3⟩ := h
  exact ⟨F, h1.keep hb, h2, h3⟩

theorem post_kt {w w' : World} {lo b g : Nat} {size left : Int} {F : List (Int × Int)} {C : Nat} {sp : List Value} (h : MG w lo b g size left F C sp) (hk : Keeps (fun k => k = b ∨ k = g) w w') (hlw : lo ≤ w.heap.size) : KT mapTs lo w w' :=
  KT.of_keeps hk (fun k _ hS => by
    rcases hS with rfl | rfl
    · exact ⟨h.lob, _, _, _, h.map, by simp [mapTs]⟩
    · exact ⟨h.log, _, _, _, h.run, by simp [mapTs]⟩) hlw

theorem count_set_true (T : List Bool) (p : Nat) (h : T[p]? = some false) : (T.set p true).count false + 1 = T.count false := by
  induction T generalizing p with
  | nil => simp at h
  | cons t l ih =>
    cases p with
    | zero => simp at h; subst h; simp
    | succ p =>
      have := ih p (by simpa using h)
      cases t <;> simp [List.set_cons_succ] <;> omega

theorem count_set_false (T : List Bool) (p : Nat) (h : T[p]? = some true) : (T.set p false).count false = T.count false + 1 := by
  induction T generalizing p with
  | nil => simp at h
  | cons t l ih =>
    cases p with
    | zero => simp at h; subst h; simp
    | succ p =>
      have := ih p (by simpa using h)
      cases t <;> simp [List.set_cons_succ] <;> omega

theorem Link.mark {T : List Bool} {F F' : List (Int × Int)} {p : Nat} (h : Link T F) (hp : p < T.length) (hF : ∀ z, FreeIn F' z ↔ FreeIn F z ∧ z ≠ (p : Int)) : Link (T.set p true) F' := by
  intro q hq
  rw [List.length_set] at hq
  rw [hF, ← h q hq, List.getElem?_set]
  by_cases e : p = q
  · subst e; simp [hq]
  · rw [if_neg e]
    have : (q : Int) ≠ (p : Int) := by omega
    simp [this]

theorem Link.free {T : List Bool} {F F' : List (Int × Int)} {p : Nat} (h : Link T F) (hp : p < T.length) (hF : ∀ z, FreeIn F' z ↔ FreeIn F z ∨ z = (p : Int)) : Link (T.set p false) F' := by
  intro q hq
  rw [List.length_set] at hq
  rw [hF, ← h q hq, List.getElem?_set]
  by_cases e : p = q
  · subst e; simp [hq]
  · rw [if_neg e]
    have : (q : Int) ≠ (p : Int) := by omega
    simp [this]

theorem left_all (w : World) (lo b N : Nat) (F : List (Int × Int)) (h : MpF w lo b N F) : Calls Try.prog 36 #[.pointer (some ⟨b, 0, none⟩)] w fun e w' => e = .returned (.int .i64 (runSum F)) ∧ w = w' := by
  rcases h.2 with ⟨e1, rfl, e3⟩ | ⟨e1, g, C, sp, e2, e3⟩
  · exact left0 w lo b e3
  · exact leftG w lo b g _ _ C F sp e2

theorem mark_yes (w : World) (lo b p : Nat) (T : List Bool) (h : MpAt w lo b T) (hT : T.length ≤ 60) (hlw : lo ≤ w.heap.size) (hp : T[p]? = some false) :
    Calls Try.prog 33 #[.pointer (some ⟨b, 0, none⟩), .int .i64 (p : Int)] w fun e w' => e = .returned (.bool true) ∧ MpAt w' lo b (T.set p true) ∧ KT mapTs lo w w' := by
  obtain ⟨F, ⟨hF, hm⟩, hL, hc⟩ := h
  have hpl : p < T.length := (List.getElem?_eq_some_iff.1 hp).1
  rcases hm with ⟨e1, _, _⟩ | ⟨e1, g, C, sp, hG, hC⟩
  · omega
  · have hfr : FreeIn F (p : Int) := (hL p hpl).1 hp
    obtain ⟨f, u, hf, hfi⟩ := (free_iff hF (p : Int)).1 hfr
    have hiu : (p : Int) < u := (firstEnd_iff hF (p : Int) _ f u hf).2 (Nat.le_refl _)
    have hb := hF.at _ f u hf
    have hln := runs_len hF (by omega)
    have hsum := runs_sum hF (by omega)
    obtain ⟨r1, r2, r3⟩ := markR_runs hF hfr
    have hsum2 := runs_sum r1 (by omega)
    have hcall := mark_in w lo b g (firstEnd F (p : Int)) _ _ (p : Int) C F sp hG hC (by omega) hlw (fun k f u hk => firstEnd_at hF (p : Int) k f u hk) f u hf hfi hiu (by omega) (by omega) (by omega) (by omega)
    rw [List.append_assoc, ← markR_form F (p : Int) f u hf] at hcall
    refine hcall.mono ?_
    rintro e w' ⟨rfl, ⟨q, C', sp', hG', hC', _⟩, hk⟩
    refine ⟨rfl, ⟨markR F (p : Int), ⟨by rw [List.length_set]; exact r1, .inr ⟨by rw [List.length_set]; exact e1, q, C', sp', by rw [List.length_set, r3]; exact hG', hC'⟩⟩, hL.mark hpl r2, ?_⟩, post_kt hG hk hlw⟩
    have := count_set_true T p hp
    omega

theorem mark_no (w : World) (lo b : Nat) (i : Int) (T : List Bool) (h : MpAt w lo b T) (hT : T.length ≤ 60) (hp : ∀ p : Nat, i = (p : Int) → T[p]? ≠ some false) :
    Calls Try.prog 33 #[.pointer (some ⟨b, 0, none⟩), .int .i64 i] w fun e w' => e = .returned (.bool false) ∧ Below w.heap.size w w' := by
  obtain ⟨F, ⟨hF, hm⟩, hL, hc⟩ := h
  rcases hm with ⟨e1, _, hE⟩ | ⟨e1, g, C, sp, hG, hC⟩
  · exact mark0 w lo b i hE
  · have hnf : ¬ FreeIn F i := fun hh => by
      have hb := hh.ge hF
      refine hp i.toNat (by omega) ((hL i.toNat (by omega)).2 ?_)
      rw [show ((i.toNat : Nat) : Int) = i by omega]
      exact hh
    have hln := runs_len hF (by omega)
    have hle := firstEnd_le F i
    rcases Nat.lt_or_ge (firstEnd F i) F.length with hlt | hge
    · obtain ⟨⟨f, u⟩, hf⟩ : ∃ x, F[firstEnd F i]? = some x := ⟨_, List.getElem?_eq_getElem hlt⟩
      have hi : i < f := by
        rcases Int.lt_or_le i f with hh | hh
        · exact hh
        · exact absurd ((free_iff hF i).2 ⟨f, u, hf, hh⟩) hnf
      exact mark_gap w lo b g _ _ _ i C F sp hG (by omega) (fun k f u hk => firstEnd_at hF i k f u hk) f u hf hi
    · exact mark_out w lo b g _ _ _ i C F sp hG (by omega) (fun k f u hk => firstEnd_at hF i k f u hk) (by omega)

theorem free_yes (w : World) (lo b p : Nat) (T : List Bool) (h : MpAt w lo b T) (hT : T.length ≤ 60) (hlw : lo ≤ w.heap.size) (hp : T[p]? = some true) :
    Calls Try.prog 34 #[.pointer (some ⟨b, 0, none⟩), .int .i64 (p : Int)] w fun e w' => e = .returned (.bool true) ∧ MpAt w' lo b (T.set p false) ∧ KT mapTs lo w w' := by
  obtain ⟨F, ⟨hF, hm⟩, hL, hc⟩ := h
  have hpl : p < T.length := (List.getElem?_eq_some_iff.1 hp).1
  rcases hm with ⟨e1, _, _⟩ | ⟨e1, g, C, sp, hG, hC⟩
  · omega
  · have hnf : ¬ FreeIn F (p : Int) := fun hh => by
      have := (hL p hpl).2 hh
      rw [hp] at this
      cases this
    have hln := runs_len hF (by omega)
    have hsum := runs_sum hF (by omega)
    have hle := firstEnd_le F (p : Int)
    obtain ⟨r1, r2, r3⟩ := freeR_runs hF (by omega) (by omega) hnf
    obtain ⟨K1, K2, jf, ju, jl, jr, hHL, hHR, he⟩ := freeR_ex hF hnf
    have hfind : Calls Try.prog 52 #[.pointer (some ⟨b, 0, none⟩), .int .i64 (p : Int)] w fun e w' => e = .returned (.tuple #[.int .i64 (firstEnd F (p : Int)), .bool false]) ∧ Below w.heap.size w w' := by
      rcases Nat.lt_or_ge (firstEnd F (p : Int)) F.length with hlt | hge
      · obtain ⟨⟨f, u⟩, hf⟩ : ∃ x, F[firstEnd F (p : Int)]? = some x := ⟨_, List.getElem?_eq_getElem hlt⟩
        have hi : ¬ f ≤ (p : Int) := fun hh => hnf ((free_iff hF (p : Int)).2 ⟨f, u, hf, hh⟩)
        have hcc := findG_in w b g lo (firstEnd F (p : Int)) _ _ (p : Int) C F sp hG (by omega) (fun k f u hk => firstEnd_at hF (p : Int) k f u hk) f u hf
        rw [decide_eq_false hi] at hcc
        exact hcc
      · exact findG_out w b g lo (firstEnd F (p : Int)) _ _ (p : Int) C F sp hG (by omega) (fun k f u hk => firstEnd_at hF (p : Int) k f u hk) (by omega)
    have hcall := free_in w lo b g (firstEnd F (p : Int)) K1 K2 _ _ (p : Int) jf ju C F sp jl jr hG hC (by omega) hlw hfind (by omega) (by omega) (by omega) (by omega) (by omega) hle hHL hHR
    rw [he] at hcall
    refine hcall.mono ?_
    rintro e w' ⟨rfl, ⟨q, C', sp', hG', hC', _⟩, hk⟩
    refine ⟨rfl, ⟨freeR F (p : Int), ⟨by rw [List.length_set]; exact r1, .inr ⟨by rw [List.length_set]; exact e1, q, C', sp', by rw [List.length_set, r3]; exact hG', hC'⟩⟩, hL.free hpl r2, ?_⟩, post_kt hG hk hlw⟩
    have := count_set_false T p hp
    omega

theorem free_no (w : World) (lo b : Nat) (i : Int) (T : List Bool) (h : MpAt w lo b T) (hT : T.length ≤ 60) (hp : ∀ p : Nat, i = (p : Int) → T[p]? ≠ some true) :
    Calls Try.prog 34 #[.pointer (some ⟨b, 0, none⟩), .int .i64 i] w fun e w' => e = .returned (.bool false) ∧ Below w.heap.size w w' := by
  obtain ⟨F, ⟨hF, hm⟩, hL, hc⟩ := h
  rcases hm with ⟨e1, _, hE⟩ | ⟨e1, g, C, sp, hG, hC⟩
  · refine (free0 w lo b i hE).mono ?_
    rintro e w' ⟨rfl, rfl⟩
    exact ⟨rfl, Below.refl _ _⟩
  · have hln := runs_len hF (by omega)
    by_cases hin : i < 0 ∨ (T.length : Int) ≤ i
    · refine (free_far w lo b g _ _ C F sp hG i hin).mono ?_
      rintro e w' ⟨rfl, rfl⟩
      exact ⟨rfl, Below.refl _ _⟩
    · have hpp : i = ((i.toNat : Nat) : Int) := by omega
      have hlt : i.toNat < T.length := by omega
      have hfr : FreeIn F i := by
        have h1 := hp i.toNat hpp
        have h2 := (hL i.toNat hlt).1
        rw [← hpp] at h2
        refine h2 ?_
        rw [List.getElem?_eq_getElem hlt] at h1 ⊢
        cases hx : T[i.toNat] with
        | false => rfl
        | true => rw [hx] at h1; exact absurd rfl h1
      obtain ⟨f, u, hf, hfi⟩ := (free_iff hF i).1 hfr
      exact free_free w lo b g _ _ _ i C F sp hG (by omega) (fun k f u hk => firstEnd_at hF i k f u hk) f u hf hfi (by omega) (by omega)

theorem take_no (w : World) (lo b N : Nat) (i : Int) (F : List (Int × Int)) (h : MpF w lo b N F) (hN : N ≤ 60) (hi : i < 0 ∨ runSum F < i) :
    Calls Try.prog 35 #[.pointer (some ⟨b, 0, none⟩), .int .i64 i] w fun e w' => e = .returned (.tuple #[.slice none 0 0, .bool false]) ∧ w = w' := by
  obtain ⟨hF, hm⟩ := h
  rcases hm with ⟨e1, rfl, hE⟩ | ⟨e1, g, C, sp, hG, hC⟩
  · exact take0_no w lo b i hE hi
  · have hsum := runs_sum hF (by omega)
    by_cases h0 : i < 0
    · exact take_neg w lo b g _ _ C F sp hG i h0
    · exact take_many w lo b g _ _ C F sp hG i (by omega) (by rcases hi with h1 | h1; exact absurd h1 h0; exact h1) (by omega)

theorem take_yes (w : World) (lo b N n : Nat) (F : List (Int × Int)) (h : MpF w lo b N F) (hN : N ≤ 60) (hlw : lo ≤ w.heap.size) (hn : (n : Int) ≤ runSum F) :
    Calls Try.prog 35 #[.pointer (some ⟨b, 0, none⟩), .int .i64 (n : Int)] w fun e w' => ∃ ua uc, e = .returned (.tuple #[.slice ua n uc, .bool true]) ∧ MpF w' lo b N (takeR F n) ∧ w'.ownsRow w.heap.size 3 1 (.slice ua n uc) n ((firstsR F n).map (Value.int .i64)) ∧ KT mapTs lo w w' := by
  obtain ⟨hF, hm⟩ := h
  rcases hm with ⟨e1, rfl, hE⟩ | ⟨e1, g, C, sp, hG, hC⟩
  · obtain rfl : n = 0 := by simp only [runSum] at hn; omega
    refine (take0 w lo b hE hlw).mono ?_
    rintro e w' ⟨ua, uc, rfl, h1, h2, h3⟩
    exact ⟨ua, uc, rfl, ⟨trivial, .inl ⟨e1, rfl, h1⟩⟩, h2, KT.of_keeps h3 (fun k _ hS => by subst hS; exact ⟨hE.lob, _, _, _, hE.map, by simp [mapTs]⟩) hlw⟩
  · have hln := runs_len hF (by omega)
    have hsum := runs_sum hF (by omega)
    obtain ⟨r1, r2, r3, r4⟩ := takeR_runs (n := n) hF hn
    refine (take_in w lo b g n _ _ C F sp hG hC (by omega) hlw (hF.wide (by omega)) rfl hn (by omega)).mono ?_
    rintro e w' ⟨ua, uc, ⟨rfl, ⟨q, C', sp', hG', hC', _⟩, hk⟩, ho⟩
    exact ⟨ua, uc, rfl, ⟨r1, .inr ⟨e1, q, C', sp', by rw [r3]; exact hG', hC'⟩⟩, ho, post_kt hG hk hlw⟩

end Go.Proofs.Ytbagpckiegpalaa
