/-
  Contracts: Fill.
-/
import Derived.Test.YtdongghjchnpbaaRowV
import Derived.Test.YtdongghjchnpbaaAppR
namespace Go.Proofs.Ytdongghjchnpbaa
open Go.RowKit Go.Shelf
set_option linter.unusedVariables false

/-- A row of cells of its own. -/
def RoomAt (w : World) (B : Nat) (f : Nat → Nat) : Prop := w.heap[B]? = some (.cells ((List.range 16).map fun k => uv (f k)).toArray 85 (0, 0))

theorem RoomAt.cell {w : World} {B : Nat} {f : Nat → Nat} (h : RoomAt w B f) (n : Nat) (hn : n < 16) : w.cell? ⟨B, 0 + n, none⟩ = some (.int .u32 (f n)) := by
  rw [cell_of_row _ _ _ _ _ _ h, List.getElem?_toArray, Nat.zero_add]
  simp [hn, uv]

/-- What is in it once a job was put there. -/
def over (f : Nat → Nat) (l : List Nat) (j : Nat) : Nat → Nat := l.foldl (fun f n => fun i => if i = n then j else f i) f

theorem over_at (l : List Nat) (j : Nat) : ∀ (f : Nat → Nat) (i : Nat), over f l j i = if i ∈ l then j else f i := by
  unfold over
  induction l with
  | nil => intro f i; simp
  | cons n l ih =>
    intro f i
    rw [List.foldl_cons, ih]
    by_cases h : i ∈ l
    · rw [if_pos h, if_pos (by simp [h])]
    · rw [if_neg h]
      by_cases e : i = n
      · rw [if_pos e, if_pos (by simp [e])]
      · rw [if_neg e, if_neg (by simp [h, e])]

theorem RoomAt.set {w : World} {B : Nat} {f : Nat → Nat} (h : RoomAt w B f) (l : List Nat) (j : Nat) : RoomAt (setAll w B 0 l j) B (over f l j) := by
  unfold RoomAt
  rw [setAll_block w B 0 l j _ _ _ h]
  congr 3
  unfold over
  clear h
  induction l generalizing f with
  | nil => rfl
  | cons n l ih =>
    rw [List.foldl_cons, List.foldl_cons, ← ih]
    congr 1
    apply List.ext_getElem? fun i => ?_
    rw [List.getElem?_set]
    simp only [List.length_map, List.length_range, Nat.zero_add, List.getElem?_map]
    by_cases hi : i < 16
    · by_cases e : n = i
      · subst e; simp [hi, uv]
      · simp [e, hi, uv, show i ≠ n by omega]
    · by_cases e : n = i
      · subst e; simp [hi]
      · simp [e, hi]

def Mx.line (m : Mx) (row : Nat) : Nat → Nat := fun k => m.c (16 * row + k)

theorem Mx.cells_line (m : Mx) (row : Nat) (hrow : row < 8) : (m.cells.drop (2 + row * 16)).take 16 = (List.range 16).map fun k => uv (m.line row k) := by
  apply Mx.cells_ext (by simp [Mx.cells_length]; omega)
  intro i hi
  have hi16 : i < 16 := by
    rw [List.length_take] at hi
    omega
  rw [List.getElem?_take, if_pos hi16, List.getElem?_drop, show 2 + row * 16 + i = 2 + (16 * row + i) by omega, Mx.cells_c _ _ (by omega)]
  simp [hi16, uv, Mx.line]

/-- One job of another row. -/
def fillJob (m : Mx) (other : Nat) (st : (Nat → Nat) × List Nat) (j : Nat) : (Nat → Nat) × List Nat :=
  if (m.own other j).all (fun n => st.1 n == 0) then (over st.1 (m.own other j) j, st.2 ++ [j]) else st
/-- Another row. -/
def fillRow (m : Mx) (row : Nat) (st : (Nat → Nat) × List Nat) (other : Nat) : (Nat → Nat) × List Nat :=
  if other = row then st else (m.row other).foldl (fillJob m other) st
def Mx.filled (m : Mx) (row : Nat) : (Nat → Nat) × List Nat := (List.range m.r).foldl (fillRow m row) (m.line row, [])
def Mx.fill (m : Mx) (row : Nat) : List Nat := (m.filled row).2

theorem foldl_take_succ {α β : Type} (f : β → α → β) (b : β) (l : List α) (k : Nat) (x : α) (h : l[k]? = some x) : (l.take (k + 1)).foldl f b = f ((l.take k).foldl f b) x := by
  rw [take_snoc' l k x h, List.foldl_append]; rfl
theorem foldl_range_succ {β : Type} (f : β → Nat → β) (b : β) (k : Nat) : (List.range (k + 1)).foldl f b = f ((List.range k).foldl f b) k := by
  rw [List.range_succ, List.foldl_append]; rfl

theorem fillJob_len (m : Mx) (other : Nat) (l : List Nat) : ∀ st : (Nat → Nat) × List Nat, (l.foldl (fillJob m other) st).2.length ≤ st.2.length + l.length := by
  induction l with
  | nil => exact fun st => Nat.le_refl _
  | cons j l ih =>
    intro st
    rw [List.foldl_cons]
    refine Nat.le_trans (ih _) ?_
    unfold fillJob
    split
    · simp only [List.length_append, List.length_cons, List.length_nil]; omega
    · rw [List.length_cons]; omega

theorem Mx.row_len (m : Mx) (row : Nat) : (m.row row).length ≤ m.n := Nat.le_trans (jobs_len _ _) (Mx.at_len _ _)

theorem fillRow_len (m : Mx) (row k : Nat) : ((List.range k).foldl (fillRow m row) (m.line row, [])).2.length ≤ k * m.n := by
  induction k with
  | zero => simp
  | succ k ih =>
    rw [foldl_range_succ]
    unfold fillRow
    split
    · rw [Nat.succ_mul]; exact Nat.le_trans ih (by omega)
    · have := fillJob_len m k (m.row k) ((List.range k).foldl (fillRow m row) (m.line row, []))
      have h2 := m.row_len k
      rw [Nat.succ_mul]
      unfold fillRow at this ih
      omega

theorem fill_no (w : World) (b : Nat) (m : Mx) (row : Int) (h : MxAt w b m) (hrow : row < 0 ∨ (m.r : Int) ≤ row) :
    Calls Try.prog 34 #[.pointer (some ⟨b, 0, none⟩), .int .i64 row] w fun e w' => e = .returned (.slice none 0 0) ∧ w = w' := by
  have HH := hid h
  have HR := hid hrow
  clear h hrow
  go_enter Try.func34, Try.ntmps34
  go_wp2_with fail
  refine (hasrow_no w b m row HH.out HR.out).mono ?_
  rintro e w' ⟨rfl, rfl⟩
  go_wp2
  go_ret
  exact ⟨rfl, rfl⟩

theorem fill_nil (w : World) (row : Int) :
    Calls Try.prog 34 #[.pointer none, .int .i64 row] w fun e w' => e = .returned (.slice none 0 0) ∧ w = w' := by
  go_enter Try.func34, Try.ntmps34
  go_wp2_with fail
  refine (hasrow_nil w row).mono ?_
  rintro e w' ⟨rfl, rfl⟩
  go_wp2
  go_ret
  exact ⟨rfl, rfl⟩

theorem Try.infoLine : (Try.prog.info? 85).map (·.size) = some 16 := by kernel_rfl
theorem Mx.line_one (m : Mx) (row : Nat) : (((List.range 16).map fun k => uv (m.line row k)).toArray).all (·.oneCell') = true := by
  rw [List.all_toArray, List.all_eq_true]
  intro v hv
  obtain ⟨_, _, rfl⟩ := List.mem_map.1 hv
  rfl

/-- A row of the matrix, loaded whole. -/
theorem load_line {o : Oper} {a : Act} {w : World} {ops : Array Oper} {rest : List Oper} {Q : Exit → Act → World → Prop} (hgd : o.guard = none) (x : Operand) (ho : o.op = .load 85 x) (b row : Nat) (m : Mx) (h : MxAt w b m) (hrow : row < 8)
    (hx : a.eval x = .pointer (some ⟨b, 2 + row * 16, none⟩)) (cs : Array Value) (hcs : cs = ((List.range 16).map fun k => uv (m.line row k)).toArray) (hK : wpList Try.prog ops Q rest (a.put o.dst (.agg cs)) w) : wpList Try.prog ops Q (o :: rest) a w := by
  subst hcs
  refine wpList_plain hgd fun _ hk => ?_
  unfold Oper.wp execOp
  have hl : (loadCells ⟨b, 2 + row * 16, none⟩ ((List.range 16).map fun k => uv (m.line row k)).length).run Try.prog w = .ok ((List.range 16).map fun k => uv (m.line row k)).toArray w :=
    run_loadCells_list (P := Try.prog) w ⟨b, 2 + row * 16, none⟩ _ (fun j v hv => by
      rw [Addr.add_lit]
      have hj : j < 16 := by
        have := (List.getElem?_eq_some_iff.1 hv).1
        simpa using this
      rw [show 2 + row * 16 + j = 2 + (16 * row + j) by omega, h.cc _ (by omega)]
      simp [hj, uv, Mx.line] at hv
      rw [← hv])
  have hagg : (isAgg 85).run Try.prog w = .ok true w := by
    unfold isAgg
    rw [Sem.run_bind, run_underlying Try.underlying85 w]
    rfl
  have hload : (loadVar 85 ⟨b, 2 + row * 16, none⟩).run Try.prog w = .ok (.agg ((List.range 16).map fun k => uv (m.line row k)).toArray) w := by
    have hi := Try.infoLine
    cases hq : Try.prog.info? 85 with
    | none => rw [hq] at hi; cases hi
    | some i =>
      have hs : i.size = 16 := by rw [hq] at hi; simpa using hi
      rw [show ((List.range 16).map fun k => uv (m.line row k)).length = 16 by simp] at hl
      simp [loadVar, Sem.run_bind, hagg, sizeOf, typeInfo, hq, hs, hl]
  simp only [ho, hx, Instr.loadAt, Instr.sureAddr, Sem.run_bind, Sem.run_pure, Result.andThen_ok, hload]
  exact hk _ _ hK

section
variable {w : World} {ops : Array Oper} {rest : List Oper} {o : Oper} {a : Act} {Q : Exit → Act → World → Prop}
/-- append as one of a row of operations, with the place of the answer. -/
theorem appsw2 (hw : Region.wanted o (yielded ops a.tmps) = true) (TS TE : TypeId) (s x : Operand) (ho : o.op = .call { callee := .builtin .append, args := #[s, x], argTypes := #[TS, TS] }) (base k bytes : Nat) (z : Value) (ht : Try.prog.underlying TS = some (.slice TE)) (hinfo : (Try.prog.info? TE).map (fun i => (i.zero, i.size, i.bytes)) = some (some z, k, bytes)) (hzs : z.cells.size = k) (hk : 0 < k)
    (v u : Value) (n m N : Nat) (xs ys : List Value) (hs : a.eval s = v) (hx : a.eval x = u) (hown : w.ownsRow base TE k v n xs) (hsrc : SrcC w u m ys) (hyl : ys.length = m * k) (hone : ∀ y ∈ ys, y.oneCell' = true) (hN : N = n + m) (hlen : (n + m) * bytes ≤ 140737488355328) (hnm : n + m ≤ 140737488355328) (hbase : base ≤ w.heap.size)
    (h : ∀ ad cap w', w'.ownsRow base TE k (.slice ad N cap) N (xs ++ ys) → w.grownBy w' v.ownBlock → (∀ q, (Value.slice ad N cap).ownBlock = some q → v.ownBlock = some q ∨ w.heap.size ≤ q) → wpList Try.prog ops Q rest (a.put o.dst (.slice ad N cap)) w') : wpList Try.prog ops Q (o :: rest) a w :=
  BigFrame.wpList_want hw fun K hK => by
    subst hN
    obtain ⟨ad, cap, w', hrun, h1, h2, h3⟩ := run_apps2 w o.type base TS TE k bytes z ht hinfo hzs hk v u n m xs ys hown hsrc hyl hone hlen hnm hbase
    unfold Oper.wp
    simp [execOp, ho, resolve, invoke, builtin, hs, hx, hrun, Result.andThen]
    exact hK _ _ (h ad cap w' h1 h2 h3)
end

theorem room_made (w : World) (row : Nat) (m : Mx) (cs z : Array Value) (hcs : cs = ((List.range 16).map fun k => uv (m.line row k)).toArray) :
    RoomAt ((w.alloc (.cells z 85)).setRow w.heap.size cs) w.heap.size (m.line row) ∧ Below w.heap.size w ((w.alloc (.cells z 85)).setRow w.heap.size cs) ∧ w.heap.size < ((w.alloc (.cells z 85)).setRow w.heap.size cs).heap.size := by
  refine ⟨?_, ?_, by simp⟩
  · unfold RoomAt
    rw [setRow_heap _ _ _ _ _ _ (heap_alloc_new w _), hcs]
  · exact ((Below.refl _ _).alloc (Nat.le_refl _) _).trans ⟨rfl, rfl, rfl, by simp, fun k hk => setRow_other _ _ _ _ (by omega)⟩

set_option maxRecDepth 100000 in
set_option maxHeartbeats 8000000 in
theorem fill_any (w : World) (b row : Nat) (m : Mx) (h : MxAt w b m) (hrow : row < m.r) :
    Calls Try.prog 34 #[.pointer (some ⟨b, 0, none⟩), .int .i64 row] w fun e w' => ∃ v, e = .returned v ∧ w'.ownsRow w.heap.size 33 1 v (m.fill row).length ((m.fill row).map uv) ∧ Below w.heap.size w w' := by
  obtain ⟨i0, hi0, hz0, hz1, hz2⟩ := info_parts Try.infoU32
  have hr8 := h.r8
  have hn16 := h.n16
  have hcr := h.cr
  have hri : (m.r : Int) ≤ 8 := by omega
  have hrwi : (row : Int) < 8 := by omega
  have HH := hid h
  have HB := hid h.lt
  obtain ⟨cs, hcs⟩ : ∃ cs, cs = ((List.range 16).map fun k => uv (m.line row k)).toArray := ⟨_, rfl⟩
  have hcz : cs.size = 16 := by rw [hcs, List.size_toArray, List.length_map, List.length_range]
  have HSZ := hid (show (Try.prog.info? 85).map (·.size) = some cs.size by rw [hcz]; exact Try.infoLine)
  have HZ := hid (show (#[.int .u32 0, .int .u32 0, .int .u32 0, .int .u32 0, .int .u32 0, .int .u32 0, .int .u32 0, .int .u32 0, .int .u32 0, .int .u32 0, .int .u32 0, .int .u32 0, .int .u32 0, .int .u32 0, .int .u32 0, .int .u32 0] : Array Value).size = cs.size from hcz.symm)
  have HONE := hid (show cs.all (·.oneCell') = true by rw [hcs]; exact m.line_one row)
  have HCS := hid hcs
  clear hcs hcz
  clear h
  go_enter Try.func34, Try.ntmps34
  go_wp2_with fail
  refine (hasrow_yes w b m row HH.out hrow).mono ?_
  rintro e w' ⟨rfl, rfl⟩
  go_wp2_with (first
    | (refine load_line rfl (.tmp 19) rfl b row m HH.out (by omega) rfl cs HCS.out ?_)
    | (refine wpList_store_row rfl 85 (.tmp 6) (.tmp 20) rfl w.heap.size cs rfl rfl 85 #[.int .u32 0, .int .u32 0, .int .u32 0, .int .u32 0, .int .u32 0, .int .u32 0, .int .u32 0, .int .u32 0, .int .u32 0, .int .u32 0, .int .u32 0, .int .u32 0, .int .u32 0, .int .u32 0, .int .u32 0, .int .u32 0] (heap_alloc_new w _) HSZ.out HZ.out HONE.out ?_; obtain ⟨hq1, hq2, hq3⟩ := room_made w row m cs #[.int .u32 0, .int .u32 0, .int .u32 0, .int .u32 0, .int .u32 0, .int .u32 0, .int .u32 0, .int .u32 0, .int .u32 0, .int .u32 0, .int .u32 0, .int .u32 0, .int .u32 0, .int .u32 0, .int .u32 0, .int .u32 0] HCS.out; generalize World.setRow (w.alloc _) w.heap.size cs = wf at hq1 hq2 hq3 ⊢; have hcr2 := (HH.out.below hq2 HB.out).cr; have HR1 := hid hq1; have HB1 := hid hq2; clear hq1 hq2)
    | fail)
  go_loopw [5, 25] (fun v i wr => ∃ k : Nat, k ≤ m.r ∧ i = .int .i64 k ∧ RoomAt wr w.heap.size ((List.range k).foldl (fillRow m row) (m.line row, [])).1 ∧ wr.ownsRow (w.heap.size + 1) 33 1 v ((List.range k).foldl (fillRow m row) (m.line row, [])).2.length (((List.range k).foldl (fillRow m row) (m.line row, [])).2.map uv) ∧ Below w.heap.size w wr ∧ w.heap.size < wr.heap.size) (fun _ i _ => m.r - (intOf i).toNat)
  case atStart => exact ⟨0, Nat.zero_le _, rfl, HR1.out, World.ownsRow_nil _ _ _ _, HB1.out, hq3⟩
  case round =>
    obtain ⟨k, hk, rfl, hR, hO, hB, hsz⟩ := hrel
    have hlen := fillRow_len m row k
    generalize hst : (List.range k).foldl (fillRow m row) (m.line row, []) = st at *
    have HST := hid hst
    have HR := hid hR
    have HO := hid hO
    have HK := hid hB
    have HM := hid (HH.out.below hB HB.out)
    have hl2 : st.2.length ≤ 8 * 16 := Nat.le_trans hlen (Nat.mul_le_mul (by omega) hn16)
    clear hR hO hB hst hcr2 hcr hlen
    by_cases hlt : k < m.r
    · have hki : (k : Int) < (m.r : Int) := by omega
      by_cases hkr : k = row
      · subst hkr
        have HF := hid (show (List.range (k + 1)).foldl (fillRow m k) (m.line k, []) = st by rw [foldl_range_succ, HST.out]; unfold fillRow; rw [if_pos rfl])
        go_wp2
        go_roundw
        case rel => exact ⟨k + 1, hlt, by go_num, by rw [HF.out]; exact HR.out, by rw [HF.out]; exact HO.out, HK.out, hsz⟩
        case measure => simp [intOf]; omega
      · have HF := hid (show (List.range (k + 1)).foldl (fillRow m row) (m.line row, []) = (m.row k).foldl (fillJob m k) st by rw [foldl_range_succ, HST.out]; unfold fillRow; rw [if_neg hkr])
        have e1 : ((k : Int) == (row : Int)) = false := by simp; omega
        have e2 : decide (k = row) = false := by simpa using hkr
        have e3 : (k == row) = false := by simpa using hkr
        clear hkr
        go_wp2_with fail
        refine (row_any wr b k m HM.out hlt).mono ?_
        rintro e w2 ⟨v2, rfl, hv2, hnil2, hb2⟩
        have HB2 := hid hb2
        have hs2 := hb2.size
        have HRV := hid (RdV.of_own hv2)
        obtain ⟨ad, cp, rfl, hcl, hcm⟩ := (RdV.of_own hv2).len
        rw [List.length_map] at hcl
        have hrl := m.row_len k
        have HNG := hid (show ∀ g o, ad = some ⟨g, o, none⟩ → wr.heap.size ≤ g from fun g o e => by
          subst e
          rcases hv2.2 with ⟨hv, _⟩ | ⟨g', cap', cur', hv, hbb, _⟩
          · cases hv
          · simp only [Value.slice.injEq, Option.some.injEq, Addr.mk.injEq] at hv
            omega)
        clear hb2 hv2 hnil2
        rw [List.length_map]
        have hcr3 := (HM.out.below HB2.out HM.out.lt).cr
        obtain ⟨wq, hwq⟩ : ∃ wq, wq = wr := ⟨_, rfl⟩
        subst hwq
        obtain ⟨vo, hvo⟩ : ∃ vo, vo = u5 := ⟨_, rfl⟩
        subst hvo
        rw [List.length_map] at HRV
        have HROOM := hid (show RoomAt w2 w.heap.size st.1 from (HB2.out.block w.heap.size (by omega)).trans HR.out)
        have HOWN := hid (owns_below HO.out HB2.out)
        have HG0 := hid (World.ownsRow.lt HO.out)
        go_wp2_with fail
        go_loopw [5, 35] (fun v i wr => ∃ j : Nat, j ≤ (m.row k).length ∧ i = .int .i64 j ∧ RoomAt wr w.heap.size (((m.row k).take j).foldl (fillJob m k) st).1 ∧ wr.ownsRow (w.heap.size + 1) 33 1 v (((m.row k).take j).foldl (fillJob m k) st).2.length ((((m.row k).take j).foldl (fillJob m k) st).2.map uv) ∧ Keeps (fun i => i = w.heap.size ∨ vo.ownBlock = some i) w2 wr ∧ (∀ g, v.ownBlock = some g → vo.ownBlock = some g ∨ w2.heap.size ≤ g)) (fun _ i _ => (m.row k).length - (intOf i).toNat)
        case atStart => exact ⟨0, Nat.zero_le _, rfl, HROOM.out, HOWN.out, Keeps.refl _ _, fun g hg => .inl hg⟩
        case round =>
          obtain ⟨j, hj, rfl, hR, hO, hKP, hPL⟩ := hrel
          have hl3 := fillJob_len m k ((m.row k).take j) st
          rw [List.length_take] at hl3
          generalize hsu : ((m.row k).take j).foldl (fillJob m k) st = su at *
          have HSU := hid hsu
          have HR5 := hid hR
          have HO5 := hid hO
          have HKP := hid hKP
          have HPL := hid hPL
          have hs5 := hKP.size
          have HM5 := hid ((HM.out.below HB2.out HM.out.lt).block (hKP.block b (by have := HB.out; omega) (by
            rintro (e | e)
            · have := HB.out; omega
            · have := (HG0.out b e).1; have := HB.out; omega)))
          clear hR hO hKP hPL hsu hcr3
          by_cases hjl : j < (m.row k).length
          · obtain ⟨job, hjob⟩ : ∃ x, (m.row k)[j]? = some x := ⟨_, List.getElem?_eq_getElem hjl⟩
            have hji : (j : Int) < ((m.row k).length : Int) := by omega
            obtain ⟨g2, o2, hca, hcells⟩ : ∃ g2 o2, ad = some ⟨g2, o2, none⟩ ∧ wr.cell? ⟨g2, o2 + j, none⟩ = some (.int .u32 job) := by
              rcases HRV.out with ⟨_, he⟩ | ⟨g, o, cap', e, h1, h2, h3, h4⟩
              · simp at he; rw [he] at hjl; simp at hjl
              · simp only [List.length_map, Value.slice.injEq] at e
                obtain ⟨rfl, -, rfl⟩ := e
                refine ⟨g, o, rfl, ?_⟩
                have hne : ¬ (g = w.heap.size ∨ vo.ownBlock = some g) := by
                  have := HNG.out g o rfl
                  rintro (e | e)
                  · omega
                  · have := (HG0.out g e).2; omega
                rw [HKP.out.cell (p := ⟨g, o + j, none⟩) h3 hne]
                exact h4 j (uv job) (by simp [hjob])
            subst hca
            have HT := hid (foldl_take_succ (fillJob m k) st (m.row k) j job hjob)
            clear hjob
            go_wp2_with fail
            refine (held_seq wr wr.heap.size b k job m HM5.out hlt HM5.out.lt (Nat.le_refl _)).mono ?_
            rintro e w6 ⟨lb, rfl, hb6, hg6⟩
            have HB6 := hid hb6
            have HG6 := hid hg6
            have hs6 := hb6.size
            clear hb6 hg6
            go_wp2_with fail
            refine (collect_held wr b k job m lb w6 HB6.out HG6.out hn16).mono ?_
            rintro e w7 ⟨v7, rfl, hv7, hn7, hb7⟩
            have HB7 := hid hb7
            have HV7 := hid hv7
            have hs7 := hb7.size
            have HR7 := hid (show RoomAt w7 w.heap.size su.1 from (hb7.block w.heap.size (by omega)).trans HR5.out)
            have HO7 := hid (owns_below HO5.out hb7)
            clear hb7 hv7 hn7
            go_wp2_with fail
            refine (goes_any w7 w.heap.size 0 su.1 v7 (m.own k job) (fun n hn => HR7.out.cell n hn) (RdV.of_own HV7.out) (own_lt hn16)).mono ?_
            rintro e w8 ⟨rfl, rfl⟩
            cases hall : (m.own k job).all (fun n => su.1 n == 0) with
            | false =>
              have HF2 := hid (show ((m.row k).take (j + 1)).foldl (fillJob m k) st = su by rw [HT.out, HSU.out]; unfold fillJob; rw [hall, if_neg (by simp)])
              clear hall
              go_wp2
              go_roundw
              case rel => exact ⟨j + 1, hjl, by go_num, by rw [HF2.out]; exact HR7.out, by rw [HF2.out]; exact HO7.out, HKP.out.trans (Keeps.of_below HB7.out (fun i h1 h2 => by omega)), HPL.out⟩
              case measure => simp [intOf]; omega
            | true =>
              have HF2 := hid (show ((m.row k).take (j + 1)).foldl (fillJob m k) st = (over su.1 (m.own k job) job, su.2 ++ [job]) by rw [HT.out, HSU.out]; unfold fillJob; rw [hall, if_pos rfl])
              clear hall
              go_wp2_with fail
              refine (set_any w7 w.heap.size 0 _ _ v7 (m.own k job) job HR7.out (by simp) (RdV.of_own HV7.out) (Off.of_own HV7.out (by omega)) (own_lt hn16)).mono ?_
              rintro e w9 ⟨⟨u, rfl⟩, hw9⟩
              have hk9 := setAll_keeps w7 w.heap.size 0 (m.own k job) job
              rw [← hw9] at hk9
              have hr9 := HR7.out.set (m.own k job) job
              rw [← hw9] at hr9
              have HR9 := hid hr9
              have HK9 := hid hk9
              have hs9 := hk9.size
              have HO9 := hid (owns_by HO7.out fun g hg => hk9.block g (World.ownsRow.lt HO7.out g hg).2 (by have := (World.ownsRow.lt HO7.out g hg).1; omega))
              clear hw9 hr9 hk9
              have hl4 : su.2.length ≤ 8 * 16 + 16 := by omega
              obtain ⟨av, cv, rfl, hcv1, hcv2⟩ := (RdV.of_own HO9.out).len
              rw [List.length_map] at hcv1 HO9 HPL HO5 HO7
              have hsrc := hid (SrcC.lit w9 #[.int .u32 (job : Nat)] 33 1 [uv job] rfl)
              have hof := hid (owns_below HO9.out ((Below.refl _ _).alloc (Nat.le_refl _) (.cells #[.int .u32 (job : Nat)] 33)))
              go_wp2_with (at_builtin; (refine appsw2 (by rfl) 60 33 (.tmp 49) (.tmp 51) rfl (w.heap.size + 1) 1 4 _ Try.underlying60 Try.infoU32 rfl (by decide) _ _ su.2.length 1 (su.2.length + 1) _ _ rfl rfl hof.out hsrc.out rfl (by intro y hy; rw [List.mem_singleton] at hy; subst hy; rfl) rfl (by omega) (by omega) (by simp; omega) ?_); intro ad9 cp9 wA hoA hgA hpA; have HOA := hid hoA; have HGA := hid hgA; have HPA := hid hpA; clear hoA hgA hpA)
              have hkA : Keeps (fun i => i = w.heap.size ∨ vo.ownBlock = some i) w2 wA := by
                refine ((HKP.out.trans' ((Keeps.of_below (S := fun i => i = w.heap.size) HB7.out (fun i h1 h2 => by omega)).trans' HK9.out (fun i h1 h2 => h2)) (fun i _ e => .inl e)).alloc (.cells #[.int .u32 (job : Nat)] 33)).trans' (Keeps.of_grown HGA.out) fun i h1 h2 => ?_
                rcases HPL.out i h2 with h | h
                · exact .inr h
                · omega
              have hrA : RoomAt wA w.heap.size (over su.1 (m.own k job) job) := by
                have h1 : (w9.alloc (.cells #[.int .u32 (job : Nat)] 33)).heap[w.heap.size]? = w9.heap[w.heap.size]? := Below.heap_alloc _ _ _ (by omega)
                refine (HGA.out.block w.heap.size (by simp; omega) (fun e => ?_)).trans (h1.trans HR9.out)
                have := (World.ownsRow.lt HO9.out _ e.symm).1
                omega
              have HKA := hid hkA
              have HRA := hid hrA
              have hpl : ∀ g, (Value.slice ad9 (su.2.length + 1) cp9).ownBlock = some g → vo.ownBlock = some g ∨ w2.heap.size ≤ g := fun g hg => by
                rcases HPA.out g hg with h | h
                · exact HPL.out g h
                · right; rw [World.size_alloc] at h; omega
              have HPB := hid hpl
              clear hkA hrA hpl
              go_wp2
              go_roundw
              case rel => exact ⟨j + 1, hjl, by go_num, by rw [HF2.out]; exact HRA.out, by rw [HF2.out]; simpa using HOA.out, HKA.out, HPB.out⟩
              case measure => simp [intOf]; omega
          · have e : j = (m.row k).length := by omega
            have HE := hid (show su = (m.row k).foldl (fillJob m k) st by rw [← HSU.out, e, List.take_length])
            have hji : ¬ (j : Int) < ((m.row k).length : Int) := by omega
            clear hjl e
            go_wp2
            go_roundw
            case rel => exact ⟨k + 1, hlt, by go_num, by rw [HF.out, ← HE.out]; exact HR5.out, by rw [HF.out, ← HE.out]; exact HO5.out, HK.out.trans ((HB2.out.mono (by omega)).trans (HKP.out.below (by omega) (fun i hi => by
              rcases hi with e | e
              · omega
              · have := (HG0.out i e).1; omega))), by omega⟩
            case measure => simp [intOf]; omega
    · have e : k = m.r := by omega
      have HE := hid (show st.2 = m.fill row by unfold Mx.fill Mx.filled; rw [← e, HST.out])
      have hki : ¬ (k : Int) < (m.r : Int) := by omega
      clear hlt e
      go_wp2
      go_ret
      exact ⟨_, rfl, by rw [← HE.out]; exact owns_base HO.out (by omega), HK.out⟩

end Go.Proofs.Ytdongghjchnpbaa
