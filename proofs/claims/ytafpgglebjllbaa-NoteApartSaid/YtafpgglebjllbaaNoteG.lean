/-
  The readers: contracts.
-/
import Derived.Test.YtafpgglebjllbaaNoteC
import Derived.Test.YtafpgglebjllbaaNoteP
import Derived.Test.YtafpgglebjllbaaNoteR
import Derived.Test.YtafpgglebjllbaaRefText
import Derived.Test.YtafpgglebjllbaaUntie
import Derived.Laws.Rows
import Derived.Laws.Tables
import Derived.Laws.ResultCell

namespace Go.Proofs.Ytafpgglebjllbaa
open Go.RowKit
open Note (K St stepK run)

theorem load_st {ops : Array Oper} {rest : List Oper} {o : Oper} {a : Act} {w : World} {Q : Exit → Act → World → Prop} (hgd : o.guard = none) (ty : TypeId) (x : Operand) (ho : o.op = .load ty x)
    (g : Nat) (hx : a.eval x = .pointer (some ⟨g, 0, none⟩)) (cs : Array Value) (fs : Array Field) (n : Nat) (hg : w.heap[g]? = some (.cells cs ty (0, 0)))
    (hu : Try.prog.underlying ty = some (.struct fs)) (hi : (Try.prog.info? ty).map (·.size) = some n) (hn : cs.size = n)
    (h : wpList Try.prog ops Q rest (a.put o.dst (.agg cs)) w) : wpList Try.prog ops Q (o :: rest) a w :=
  wpList_load_row hgd ty x ho g hx ty cs (0, 0) (.struct fs) hg hu rfl (by rw [hi, hn]) h

theorem store_st {ops : Array Oper} {rest : List Oper} {o : Oper} {a : Act} {w : World} {Q : Exit → Act → World → Prop} (hgd : o.guard = none) (ty : TypeId) (x y : Operand) (ho : o.op = .store ty x y)
    (g : Nat) (cells : Array Value) (hx : a.eval x = .pointer (some ⟨g, 0, none⟩)) (hy : a.eval y = .agg cells) (old : Array Value) (n : Nat) (hg : w.heap[g]? = some (.cells old ty (0, 0))) (hi : (Try.prog.info? ty).map (·.size) = some n)
    (hn : cells.size = n) (hold : old.size = n) (h1 : cells.all (·.oneCell') = true)
    (h : wpList Try.prog ops Q rest (a.put o.dst undef) (w.setRow g cells)) : wpList Try.prog ops Q (o :: rest) a w :=
  wpList_store_row hgd ty x y ho g cells hx hy ty old hg (by rw [hi, hn]) (by rw [hold, hn]) h1 h

theorem results_cell2 {fn : Func} {p u : Tmp} {ty : TypeId} (h : fn.results = #[.cell p ty, .tmp u]) (tmps : Array Value) (w : World) (v : Value) (g : Nat) (t : TypeId) (cs : Array Value) (fr : Nat × Nat) (fs : Array Field)
    (hp : tmps.getD p undef = .pointer (some ⟨g, 0, none⟩)) (hv : tmps.getD u undef = v) (hg : w.heap[g]? = some (.cells cs t fr))
    (hu : Try.prog.underlying ty = some (.struct fs)) (hi : (Try.prog.info? ty).map (·.size) = some cs.size) :
    (results fn tmps).run Try.prog w = .ok (.tuple #[.agg cs, v]) w := by
  rw [results_cell_tmp h, hp, hv]
  simp [asAddr, run_loadVar_row w g t ty cs fr (.struct fs) hg hu rfl hi]

theorem FldAt.below {w w' : World} {base bf be : Nat} {v : Value} {st : St} (h : FldAt w base bf be v st) (hb : Below w.heap.size w w') : FldAt w' base bf be v st :=
  ⟨(hb.block bf h.lt).trans h.1, EyeAt.below h.2.1 hb, h.2.2⟩

theorem setRow_below {w : World} {B g : Nat} (cs : Array Value) (hg : B ≤ g) : Below B w (w.setRow g cs) :=
  ⟨rfl, rfl, rfl, by simp, fun k hk => setRow_other w g k cs (by omega)⟩

theorem setRow_keeps (w : World) (g : Nat) (cs : Array Value) : Keeps (fun k => k = g) w (w.setRow g cs) :=
  ⟨rfl, rfl, rfl, by simp, fun k _ hk => setRow_other w g k cs hk⟩

theorem utext_length (p : List UInt8) : (Knot.utext p).length ≤ p.length := by
  unfold Knot.utext
  split
  · exact Knot.text_length p
  · simp

theorem size_reply : (Try.prog.info? 54).map (·.size) = some 6 := by kernel_rfl

theorem reply_zero_wf : Note.R.zero.wf := (by unfold Note.R.wf Note.R.zero; simp)

set_option maxRecDepth 100000 in
set_option maxHeartbeats 2000000 in
theorem rgreply_err (pv : Value) (l : List UInt8) (w : World) (hrd : Rd w pv l) (hl : l.length ≤ 100000) (hu : Knot.uerr l ≠ 0) :
    Calls Try.prog 53 #[pv, .int .u64 3, .func (.func 54) #[] #[], .func (.func 55) #[] #[]] w fun e w' => ∃ (x : Note.R) (ec : Int), e = .returned (.tuple #[.agg #[.int .u8 (x.cl : Int), .int .u32 (x.s : Int), .int .i64 x.e, .int .u32 (x.j : Int), .int .u8 (x.st : Int), .int .i64 x.c], .int .i64 ec]) ∧ Note.Ans Note.R.ok Note.R.enc Note.R.zero l x ec ∧ x.wf ∧ Below w.heap.size w w' := by
  obtain ⟨ku, hku⟩ : ∃ ku, ku = Knot.uerr l := ⟨_, rfl⟩
  rw [← hku] at hu
  have hq : ((ku : Int) != 0) = true := by rw [bne_iff_ne]; exact hu
  have HU := hid hu
  have HK := hid hku
  have HRD := hid ((hrd.alloc (.cells #[.int .u8 0, .int .u32 0, .int .i64 0, .int .u32 0, .int .u8 0, .int .i64 0] 54)).alloc (.cells #[.int .u8 0, .int .u32 0, .int .i64 0, .int .u32 0, .int .u8 0, .int .i64 0] 54))
  clear hu hku hrd
  go_enter Try.func53, Try.ntmps53
  go_wp2_with fail
  refine (untie_any pv l _ HRD.out (by omega)).mono ?_
  rintro e w1 ⟨uv, rfl, hou, hb1⟩
  rw [← HK.out]
  have hs1 := hb1.size
  simp at hs1
  have hz8 : w1.heap[w.heap.size]? = some (.cells #[.int .u8 0, .int .u32 0, .int .i64 0, .int .u32 0, .int .u8 0, .int .i64 0] 54 (0, 0)) := (hb1.block _ (by simp <;> omega)).trans (heap_alloc2_old w _ _)
  have hz10 : w1.heap[w.heap.size + 1]? = some (.cells #[.int .u8 0, .int .u32 0, .int .i64 0, .int .u32 0, .int .u8 0, .int .i64 0] 54 (0, 0)) := (hb1.block _ (by simp)).trans (heap_alloc2_new w _ _)
  have HZ8 := hid hz8
  have HZ10 := hid hz10
  have HW1 : Below w.heap.size w w1 := (((Below.refl _ _).alloc (Nat.le_refl _) _).alloc (by simp) _).trans (hb1.mono (by simp; omega))
  clear hz8 hz10 hb1 hou
  go_wp2_with (first | (refine load_st rfl 54 (.tmp 10) rfl (w.heap.size + 1) rfl #[.int .u8 0, .int .u32 0, .int .i64 0, .int .u32 0, .int .u8 0, .int .i64 0] _ 6 HZ10.out Try.underlying54 size_reply rfl ?_) | (refine store_st rfl 54 (.tmp 8) (.tmp 22) rfl w.heap.size #[.int .u8 0, .int .u32 0, .int .i64 0, .int .u32 0, .int .u8 0, .int .i64 0] rfl rfl #[.int .u8 0, .int .u32 0, .int .i64 0, .int .u32 0, .int .u8 0, .int .i64 0] 6 HZ8.out size_reply rfl rfl (by simp [Value.oneCell']) ?_) | fail)
  refine bodyPost_ret (results_cell2 rfl _ _ _ w.heap.size 54 #[.int .u8 0, .int .u32 0, .int .i64 0, .int .u32 0, .int .u8 0, .int .i64 0] (0, 0) _ rfl rfl (setRow_heap w1 w.heap.size _ _ 54 _ HZ8.out) Try.underlying54 size_reply) rfl ⟨Note.R.zero, ku, rfl, .inl ⟨by rw [← HK.out]; exact HU.out, rfl, HK.out⟩, (by unfold Note.R.wf Note.R.zero; simp), HW1.trans (setRow_below _ (Nat.le_refl _))⟩

set_option maxRecDepth 100000 in
set_option maxHeartbeats 2000000 in
theorem rgreply_tag (pv : Value) (l : List UInt8) (w : World) (hrd : Rd w pv l) (hl : l.length ≤ 100000) (hu : Knot.uerr l = 0) (n0 : Nat) (s0 : Option (List UInt8)) (hn : Ink.stNum (some (Knot.utext l)) = (n0, s0)) (ht : n0 ≠ 3) :
    Calls Try.prog 53 #[pv, .int .u64 3, .func (.func 54) #[] #[], .func (.func 55) #[] #[]] w fun e w' => ∃ (x : Note.R) (ec : Int), e = .returned (.tuple #[.agg #[.int .u8 (x.cl : Int), .int .u32 (x.s : Int), .int .i64 x.e, .int .u32 (x.j : Int), .int .u8 (x.st : Int), .int .i64 x.c], .int .i64 ec]) ∧ Note.Ans Note.R.ok Note.R.enc Note.R.zero l x ec ∧ x.wf ∧ Below w.heap.size w w' := by
  have hq : ((n0 : Int) != 3) = true := by rw [bne_iff_ne]; omega
  have HT := hid ht
  clear ht
  have HRD := hid ((hrd.alloc (.cells #[.int .u8 0, .int .u32 0, .int .i64 0, .int .u32 0, .int .u8 0, .int .i64 0] 54)).alloc (.cells #[.int .u8 0, .int .u32 0, .int .i64 0, .int .u32 0, .int .u8 0, .int .i64 0] 54))
  have hul := utext_length l
  have HU := hid hu
  have HN := hid hn
  clear hu hrd hn
  go_enter Try.func53, Try.ntmps53
  go_wp2_with fail
  refine (untie_any pv l _ HRD.out (by omega)).mono ?_
  rintro e w1 ⟨uv, rfl, hou, hb1⟩
  rw [HU.out]
  have hs1 := hb1.size
  simp at hs1
  have hz8 : w1.heap[w.heap.size]? = some (.cells #[.int .u8 0, .int .u32 0, .int .i64 0, .int .u32 0, .int .u8 0, .int .i64 0] 54 (0, 0)) := (hb1.block _ (by simp <;> omega)).trans (heap_alloc2_old w _ _)
  have hz10 : w1.heap[w.heap.size + 1]? = some (.cells #[.int .u8 0, .int .u32 0, .int .i64 0, .int .u32 0, .int .u8 0, .int .i64 0] 54 (0, 0)) := (hb1.block _ (by simp)).trans (heap_alloc2_new w _ _)
  have HW1 : Below w.heap.size w w1 := (((Below.refl _ _).alloc (Nat.le_refl _) _).alloc (by simp) _).trans (hb1.mono (by simp; omega))
  go_wp2_with fail
  refine (read_any uv (Knot.utext l) w1 hou.rd (by omega)).mono ?_
  rintro e w2 ⟨be, ve, rfl, hey, hb2⟩
  have hs2 := hb2.size
  have hbe := hey.lt
  have hbeb := hey.2.2.2
  have hvo := hey.2.2.1
  have h3 := (Below.refl w2.heap.size w2).alloc (Nat.le_refl _) (.cells #[.pointer (some ⟨be, 0, none⟩), .bool false] 86)
  have HF3 := hid (show FldAt (w2.alloc (.cells #[.pointer (some ⟨be, 0, none⟩), .bool false] 86)) w1.heap.size w2.heap.size be ve (some (Knot.utext l), false) from
    ⟨heap_alloc_new w2 _, EyeAt.below hey h3, by omega, by omega, fun e => by have := (hvo _ e).2.2; omega⟩)
  have hz82 := (hb2.block w.heap.size (by omega)).trans hz8
  have hz102 := (hb2.block (w.heap.size + 1) (by omega)).trans hz10
  have HZ8 := hid ((h3.block w.heap.size (by omega)).trans hz82)
  have HZ10 := hid ((h3.block (w.heap.size + 1) (by omega)).trans hz102)
  have HW3 := hid (HW1.trans ((hb2.mono (by omega)).trans (h3.mono (by omega))))
  have hc3 := HF3.out.cell0
  clear hz8 hz10 hz82 hz102 hb1 hou hb2 hvo hey HW1 h3
  go_wp2_with fail
  refine (eyenum_st w1.heap.size be ve (some (Knot.utext l)) _ HF3.out.2.1).mono ?_
  rintro e w4 ⟨rfl, v4, h4, hk4, hv4⟩
  rw [HN.out] at h4 ⊢
  have HF4 := hid (HF3.out.eye h4 hk4 hv4)
  have hs4 := hk4.size
  simp at hs4
  have HZ84 := hid ((hk4.block w.heap.size (by simp <;> omega) (by omega)).trans HZ8.out)
  have HZ104 := hid ((hk4.block (w.heap.size + 1) (by simp <;> omega) (by omega)).trans HZ10.out)
  have HW4 := hid (HW3.out.trans (hk4.below (B := w.heap.size) (by simp <;> omega) (fun i hi => by omega)))
  clear h4 hk4 hv4 hc3 HF3 HZ8 HZ10 HW3
  go_wp2_with (first | (refine load_st rfl 54 (.tmp 10) rfl (w.heap.size + 1) rfl #[.int .u8 0, .int .u32 0, .int .i64 0, .int .u32 0, .int .u8 0, .int .i64 0] _ 6 HZ104.out Try.underlying54 size_reply rfl ?_) | (refine store_st rfl 54 (.tmp 8) (.tmp 35) rfl w.heap.size #[.int .u8 0, .int .u32 0, .int .i64 0, .int .u32 0, .int .u8 0, .int .i64 0] rfl rfl #[.int .u8 0, .int .u32 0, .int .i64 0, .int .u32 0, .int .u8 0, .int .i64 0] 6 HZ84.out size_reply rfl rfl (by simp [Value.oneCell']) ?_) | fail)
  refine bodyPost_ret (results_cell2 rfl _ _ _ w.heap.size 54 #[.int .u8 0, .int .u32 0, .int .i64 0, .int .u32 0, .int .u8 0, .int .i64 0] (0, 0) _ rfl rfl (setRow_heap w4 w.heap.size _ _ 54 _ HZ84.out) Try.underlying54 size_reply) rfl ⟨Note.R.zero, 4, rfl, .inr (.inr ⟨HU.out, Note.R.no_tag HN.out HT.out, rfl, rfl⟩), (by unfold Note.R.wf Note.R.zero; simp), HW4.out.trans (setRow_below _ (Nat.le_refl _))⟩

set_option maxRecDepth 100000 in
set_option maxHeartbeats 4000000 in
theorem rgreply_body (pv : Value) (l : List UInt8) (w : World) (hrd : Rd w pv l) (hl : l.length ≤ 100000) (hu : Knot.uerr l = 0) (s0 : Option (List UInt8)) (hn : Ink.stNum (some (Knot.utext l)) = (3, s0)) :
    Calls Try.prog 53 #[pv, .int .u64 3, .func (.func 54) #[] #[], .func (.func 55) #[] #[]] w fun e w' => ∃ (x : Note.R) (ec : Int), e = .returned (.tuple #[.agg #[.int .u8 (x.cl : Int), .int .u32 (x.s : Int), .int .i64 x.e, .int .u32 (x.j : Int), .int .u8 (x.st : Int), .int .i64 x.c], .int .i64 ec]) ∧ Note.Ans Note.R.ok Note.R.enc Note.R.zero l x ec ∧ x.wf ∧ Below w.heap.size w w' := by
  have HRD := hid ((hrd.alloc (.cells #[.int .u8 0, .int .u32 0, .int .i64 0, .int .u32 0, .int .u8 0, .int .i64 0] 54)).alloc (.cells #[.int .u8 0, .int .u32 0, .int .i64 0, .int .u32 0, .int .u8 0, .int .i64 0] 54))
  have hul := utext_length l
  have HU := hid hu
  have HN := hid hn
  clear hu hrd hn
  go_enter Try.func53, Try.ntmps53
  go_wp2_with fail
  refine (untie_any pv l _ HRD.out (by omega)).mono ?_
  rintro e w1 ⟨uv, rfl, hou, hb1⟩
  rw [HU.out]
  have hs1 := hb1.size
  simp at hs1
  have hz8 : w1.heap[w.heap.size]? = some (.cells #[.int .u8 0, .int .u32 0, .int .i64 0, .int .u32 0, .int .u8 0, .int .i64 0] 54 (0, 0)) := (hb1.block _ (by simp <;> omega)).trans (heap_alloc2_old w _ _)
  have hz10 : w1.heap[w.heap.size + 1]? = some (.cells #[.int .u8 0, .int .u32 0, .int .i64 0, .int .u32 0, .int .u8 0, .int .i64 0] 54 (0, 0)) := (hb1.block _ (by simp)).trans (heap_alloc2_new w _ _)
  have HW1 : Below w.heap.size w w1 := (((Below.refl _ _).alloc (Nat.le_refl _) _).alloc (by simp) _).trans (hb1.mono (by simp; omega))
  go_wp2_with fail
  refine (read_any uv (Knot.utext l) w1 hou.rd (by omega)).mono ?_
  rintro e w2 ⟨be, ve, rfl, hey, hb2⟩
  have hs2 := hb2.size
  have hbe := hey.lt
  have hbeb := hey.2.2.2
  have hvo := hey.2.2.1
  have h3 := (Below.refl w2.heap.size w2).alloc (Nat.le_refl _) (.cells #[.pointer (some ⟨be, 0, none⟩), .bool false] 86)
  have HF3 := hid (show FldAt (w2.alloc (.cells #[.pointer (some ⟨be, 0, none⟩), .bool false] 86)) w1.heap.size w2.heap.size be ve (some (Knot.utext l), false) from
    ⟨heap_alloc_new w2 _, EyeAt.below hey h3, by omega, by omega, fun e => by have := (hvo _ e).2.2; omega⟩)
  have hz82 := (hb2.block w.heap.size (by omega)).trans hz8
  have hz102 := (hb2.block (w.heap.size + 1) (by omega)).trans hz10
  have HZ8 := hid ((h3.block w.heap.size (by omega)).trans hz82)
  have HZ10 := hid ((h3.block (w.heap.size + 1) (by omega)).trans hz102)
  have HW3 := hid (HW1.trans ((hb2.mono (by omega)).trans (h3.mono (by omega))))
  have hc3 := HF3.out.cell0
  clear hz8 hz10 hz82 hz102 hb1 hou hb2 hvo hey HW1 h3
  go_wp2_with fail
  refine (eyenum_st w1.heap.size be ve (some (Knot.utext l)) _ HF3.out.2.1).mono ?_
  rintro e w4 ⟨rfl, v4, h4, hk4, hv4⟩
  rw [HN.out] at h4 ⊢
  have HF4 := hid (HF3.out.eye h4 hk4 hv4)
  have hs4 := hk4.size
  simp at hs4
  have HZ84 := hid ((hk4.block w.heap.size (by simp <;> omega) (by omega)).trans HZ8.out)
  have HZ104 := hid ((hk4.block (w.heap.size + 1) (by simp <;> omega) (by omega)).trans HZ10.out)
  have HW4 := hid (HW3.out.trans (hk4.below (B := w.heap.size) (by simp <;> omega) (fun i hi => by omega)))
  clear h4 hk4 hv4 hc3 HF3 HZ8 HZ10 HW3
  go_wp2_with fail
  refine (rdreply_any w4 w1.heap.size w2.heap.size be v4 (s0, false) HF4.out (by omega)).mono ?_
  rintro e w5 ⟨x, rfl, hxw, ⟨v5, st1, ⟨s5, o5⟩, hf5, hr5, hl5⟩, hb5⟩
  have hs5 := hb5.size
  have HX := hid hxw
  have HR5 := hid hr5
  have HL5 := hid hl5
  have hlt5 := hf5.lt
  have HZ85 := hid ((hb5.block w.heap.size (by omega)).trans HZ84.out)
  have HZ105 := hid ((hb5.block (w.heap.size + 1) (by omega)).trans HZ104.out)
  have HA := hid (heap_alloc_new w5 (.cells #[.int .u8 0, .int .u32 0, .int .i64 0, .int .u32 0, .int .u8 0, .int .i64 0] 54))
  have h6 : Below w5.heap.size w5 ((w5.alloc (.cells #[.int .u8 0, .int .u32 0, .int .i64 0, .int .u32 0, .int .u8 0, .int .i64 0] 54)).setRow w5.heap.size #[.int .u8 (x.cl : Int), .int .u32 (x.s : Int), .int .i64 x.e, .int .u32 (x.j : Int), .int .u8 (x.st : Int), .int .i64 x.c]) := ((Below.refl _ _).alloc (Nat.le_refl _) _).trans (setRow_below _ (Nat.le_refl _))
  have HF6 := hid (hf5.below h6)
  have HC6 := hid (setRow_heap (w5.alloc (.cells #[.int .u8 0, .int .u32 0, .int .i64 0, .int .u32 0, .int .u8 0, .int .i64 0] 54)) w5.heap.size _ #[.int .u8 (x.cl : Int), .int .u32 (x.s : Int), .int .i64 x.e, .int .u32 (x.j : Int), .int .u8 (x.st : Int), .int .i64 x.c] 54 _ HA.out)
  have HZ86 := hid ((h6.block w.heap.size (by omega)).trans HZ85.out)
  have HZ106 := hid ((h6.block (w.heap.size + 1) (by omega)).trans HZ105.out)
  have HW6 := hid (HW4.out.trans ((hb5.mono (by omega)).trans (h6.mono (by omega))))
  have hc60 := HF6.out.cell0
  have hc61 := HF6.out.cell1
  skip
  clear hf5 hr5 hl5 hxw h6 hb5
  cases o5
  · by_cases hs : s5 = some []
    · subst hs
      cases hrt : x.right
      · have HRT := hid hrt
        clear hrt
        go_wp2_with (first | (refine store_st rfl 54 (.tmp 14) (.tmp 38) rfl w5.heap.size #[.int .u8 (x.cl : Int), .int .u32 (x.s : Int), .int .i64 x.e, .int .u32 (x.j : Int), .int .u8 (x.st : Int), .int .i64 x.c] rfl rfl #[.int .u8 0, .int .u32 0, .int .i64 0, .int .u32 0, .int .u8 0, .int .i64 0] 6 HA.out size_reply rfl rfl (by simp [Value.oneCell']) ?_) | fail)
        refine (eyeend_good _ be v5 _ HF6.out.2.1).mono ?_
        rintro e w' ⟨rfl, rfl⟩
        have hcx0 : ((w5.alloc (.cells #[.int .u8 0, .int .u32 0, .int .i64 0, .int .u32 0, .int .u8 0, .int .i64 0] 54)).setRow w5.heap.size #[.int .u8 (x.cl : Int), .int .u32 (x.s : Int), .int .i64 x.e, .int .u32 (x.j : Int), .int .u8 (x.st : Int), .int .i64 x.c]).cell? ⟨w5.heap.size, 0, none⟩ = some (.int .u8 (x.cl : Int)) := (cell_of_row _ _ _ _ _ _ HC6.out).trans rfl
        have hcx1 : ((w5.alloc (.cells #[.int .u8 0, .int .u32 0, .int .i64 0, .int .u32 0, .int .u8 0, .int .i64 0] 54)).setRow w5.heap.size #[.int .u8 (x.cl : Int), .int .u32 (x.s : Int), .int .i64 x.e, .int .u32 (x.j : Int), .int .u8 (x.st : Int), .int .i64 x.c]).cell? ⟨w5.heap.size, 1, none⟩ = some (.int .u32 (x.s : Int)) := (cell_of_row _ _ _ _ _ _ HC6.out).trans rfl
        have hcx2 : ((w5.alloc (.cells #[.int .u8 0, .int .u32 0, .int .i64 0, .int .u32 0, .int .u8 0, .int .i64 0] 54)).setRow w5.heap.size #[.int .u8 (x.cl : Int), .int .u32 (x.s : Int), .int .i64 x.e, .int .u32 (x.j : Int), .int .u8 (x.st : Int), .int .i64 x.c]).cell? ⟨w5.heap.size, 2, none⟩ = some (.int .i64 x.e) := (cell_of_row _ _ _ _ _ _ HC6.out).trans rfl
        have hcx3 : ((w5.alloc (.cells #[.int .u8 0, .int .u32 0, .int .i64 0, .int .u32 0, .int .u8 0, .int .i64 0] 54)).setRow w5.heap.size #[.int .u8 (x.cl : Int), .int .u32 (x.s : Int), .int .i64 x.e, .int .u32 (x.j : Int), .int .u8 (x.st : Int), .int .i64 x.c]).cell? ⟨w5.heap.size, 3, none⟩ = some (.int .u32 (x.j : Int)) := (cell_of_row _ _ _ _ _ _ HC6.out).trans rfl
        have hcx4 : ((w5.alloc (.cells #[.int .u8 0, .int .u32 0, .int .i64 0, .int .u32 0, .int .u8 0, .int .i64 0] 54)).setRow w5.heap.size #[.int .u8 (x.cl : Int), .int .u32 (x.s : Int), .int .i64 x.e, .int .u32 (x.j : Int), .int .u8 (x.st : Int), .int .i64 x.c]).cell? ⟨w5.heap.size, 4, none⟩ = some (.int .u8 (x.st : Int)) := (cell_of_row _ _ _ _ _ _ HC6.out).trans rfl
        have hcx5 : ((w5.alloc (.cells #[.int .u8 0, .int .u32 0, .int .i64 0, .int .u32 0, .int .u8 0, .int .i64 0] 54)).setRow w5.heap.size #[.int .u8 (x.cl : Int), .int .u32 (x.s : Int), .int .i64 x.e, .int .u32 (x.j : Int), .int .u8 (x.st : Int), .int .i64 x.c]).cell? ⟨w5.heap.size, 5, none⟩ = some (.int .i64 x.c) := (cell_of_row _ _ _ _ _ _ HC6.out).trans rfl
        go_wp2_with fail
        clear hcx0 hcx1 hcx2 hcx3 hcx4 hcx5
        refine (rightreply_any x _).mono ?_
        rintro e w7 ⟨rfl, hb7⟩
        rw [HRT.out]
        have hs7 := hb7.size
        simp at hs7
        have HZ87 := hid ((hb7.block w.heap.size (by simp <;> omega)).trans HZ86.out)
        have HZ107 := hid ((hb7.block (w.heap.size + 1) (by simp <;> omega)).trans HZ106.out)
        have HC7 := hid ((hb7.block w5.heap.size (by simp <;> omega)).trans HC6.out)
        have HW7 := hid (HW6.out.trans (hb7.mono (by simp <;> omega)))
        go_wp2_with (first | (refine load_st rfl 54 (.tmp 10) rfl (w.heap.size + 1) rfl #[.int .u8 0, .int .u32 0, .int .i64 0, .int .u32 0, .int .u8 0, .int .i64 0] _ 6 HZ107.out Try.underlying54 size_reply rfl ?_) | (refine store_st rfl 54 (.tmp 8) (.tmp 57) rfl w.heap.size #[.int .u8 0, .int .u32 0, .int .i64 0, .int .u32 0, .int .u8 0, .int .i64 0] rfl rfl #[.int .u8 0, .int .u32 0, .int .i64 0, .int .u32 0, .int .u8 0, .int .i64 0] 6 HZ87.out size_reply rfl rfl (by simp [Value.oneCell']) ?_) | fail)
        refine bodyPost_ret (results_cell2 rfl _ _ _ w.heap.size 54 #[.int .u8 0, .int .u32 0, .int .i64 0, .int .u32 0, .int .u8 0, .int .i64 0] (0, 0) _ rfl rfl (setRow_heap w7 w.heap.size _ _ 54 _ HZ87.out) Try.underlying54 size_reply) rfl ⟨Note.R.zero, 4, rfl, .inr (.inr ⟨HU.out, fun y hy e => (by have h := Note.R.found HX.out HN.out HR5.out HL5.out y hy e; have h2 := hy.2; rw [← h.1, HRT.out] at h2; cases h2), rfl, rfl⟩), (by unfold Note.R.wf Note.R.zero; simp), HW7.out.trans (setRow_below _ (Nat.le_refl _))⟩
      · have HRT := hid hrt
        clear hrt
        go_wp2_with (first | (refine store_st rfl 54 (.tmp 14) (.tmp 38) rfl w5.heap.size #[.int .u8 (x.cl : Int), .int .u32 (x.s : Int), .int .i64 x.e, .int .u32 (x.j : Int), .int .u8 (x.st : Int), .int .i64 x.c] rfl rfl #[.int .u8 0, .int .u32 0, .int .i64 0, .int .u32 0, .int .u8 0, .int .i64 0] 6 HA.out size_reply rfl rfl (by simp [Value.oneCell']) ?_) | fail)
        refine (eyeend_good _ be v5 _ HF6.out.2.1).mono ?_
        rintro e w' ⟨rfl, rfl⟩
        have hcx0 : ((w5.alloc (.cells #[.int .u8 0, .int .u32 0, .int .i64 0, .int .u32 0, .int .u8 0, .int .i64 0] 54)).setRow w5.heap.size #[.int .u8 (x.cl : Int), .int .u32 (x.s : Int), .int .i64 x.e, .int .u32 (x.j : Int), .int .u8 (x.st : Int), .int .i64 x.c]).cell? ⟨w5.heap.size, 0, none⟩ = some (.int .u8 (x.cl : Int)) := (cell_of_row _ _ _ _ _ _ HC6.out).trans rfl
        have hcx1 : ((w5.alloc (.cells #[.int .u8 0, .int .u32 0, .int .i64 0, .int .u32 0, .int .u8 0, .int .i64 0] 54)).setRow w5.heap.size #[.int .u8 (x.cl : Int), .int .u32 (x.s : Int), .int .i64 x.e, .int .u32 (x.j : Int), .int .u8 (x.st : Int), .int .i64 x.c]).cell? ⟨w5.heap.size, 1, none⟩ = some (.int .u32 (x.s : Int)) := (cell_of_row _ _ _ _ _ _ HC6.out).trans rfl
        have hcx2 : ((w5.alloc (.cells #[.int .u8 0, .int .u32 0, .int .i64 0, .int .u32 0, .int .u8 0, .int .i64 0] 54)).setRow w5.heap.size #[.int .u8 (x.cl : Int), .int .u32 (x.s : Int), .int .i64 x.e, .int .u32 (x.j : Int), .int .u8 (x.st : Int), .int .i64 x.c]).cell? ⟨w5.heap.size, 2, none⟩ = some (.int .i64 x.e) := (cell_of_row _ _ _ _ _ _ HC6.out).trans rfl
        have hcx3 : ((w5.alloc (.cells #[.int .u8 0, .int .u32 0, .int .i64 0, .int .u32 0, .int .u8 0, .int .i64 0] 54)).setRow w5.heap.size #[.int .u8 (x.cl : Int), .int .u32 (x.s : Int), .int .i64 x.e, .int .u32 (x.j : Int), .int .u8 (x.st : Int), .int .i64 x.c]).cell? ⟨w5.heap.size, 3, none⟩ = some (.int .u32 (x.j : Int)) := (cell_of_row _ _ _ _ _ _ HC6.out).trans rfl
        have hcx4 : ((w5.alloc (.cells #[.int .u8 0, .int .u32 0, .int .i64 0, .int .u32 0, .int .u8 0, .int .i64 0] 54)).setRow w5.heap.size #[.int .u8 (x.cl : Int), .int .u32 (x.s : Int), .int .i64 x.e, .int .u32 (x.j : Int), .int .u8 (x.st : Int), .int .i64 x.c]).cell? ⟨w5.heap.size, 4, none⟩ = some (.int .u8 (x.st : Int)) := (cell_of_row _ _ _ _ _ _ HC6.out).trans rfl
        have hcx5 : ((w5.alloc (.cells #[.int .u8 0, .int .u32 0, .int .i64 0, .int .u32 0, .int .u8 0, .int .i64 0] 54)).setRow w5.heap.size #[.int .u8 (x.cl : Int), .int .u32 (x.s : Int), .int .i64 x.e, .int .u32 (x.j : Int), .int .u8 (x.st : Int), .int .i64 x.c]).cell? ⟨w5.heap.size, 5, none⟩ = some (.int .i64 x.c) := (cell_of_row _ _ _ _ _ _ HC6.out).trans rfl
        go_wp2_with fail
        clear hcx0 hcx1 hcx2 hcx3 hcx4 hcx5
        refine (rightreply_any x _).mono ?_
        rintro e w7 ⟨rfl, hb7⟩
        rw [HRT.out]
        have hs7 := hb7.size
        simp at hs7
        have HZ87 := hid ((hb7.block w.heap.size (by simp <;> omega)).trans HZ86.out)
        have HZ107 := hid ((hb7.block (w.heap.size + 1) (by simp <;> omega)).trans HZ106.out)
        have HC7 := hid ((hb7.block w5.heap.size (by simp <;> omega)).trans HC6.out)
        have HW7 := hid (HW6.out.trans (hb7.mono (by simp <;> omega)))
        go_wp2_with (first | (refine load_st rfl 54 (.tmp 14) rfl w5.heap.size rfl #[.int .u8 (x.cl : Int), .int .u32 (x.s : Int), .int .i64 x.e, .int .u32 (x.j : Int), .int .u8 (x.st : Int), .int .i64 x.c] _ 6 HC7.out Try.underlying54 size_reply rfl ?_) | (refine store_st rfl 54 (.tmp 8) (.tmp 58) rfl w.heap.size #[.int .u8 (x.cl : Int), .int .u32 (x.s : Int), .int .i64 x.e, .int .u32 (x.j : Int), .int .u8 (x.st : Int), .int .i64 x.c] rfl rfl #[.int .u8 0, .int .u32 0, .int .i64 0, .int .u32 0, .int .u8 0, .int .i64 0] 6 HZ87.out size_reply rfl rfl (by simp [Value.oneCell']) ?_) | fail)
        refine bodyPost_ret (results_cell2 rfl _ _ _ w.heap.size 54 #[.int .u8 (x.cl : Int), .int .u32 (x.s : Int), .int .i64 x.e, .int .u32 (x.j : Int), .int .u8 (x.st : Int), .int .i64 x.c] (0, 0) _ rfl rfl (setRow_heap w7 w.heap.size _ _ 54 _ HZ87.out) Try.underlying54 size_reply) rfl ⟨x, 0, rfl, .inr (.inl ⟨HU.out, ⟨HX.out, HRT.out⟩, Note.R.is HN.out HR5.out HL5.out, rfl⟩), HX.out, HW7.out.trans (setRow_below _ (Nat.le_refl _))⟩
    · have HS5 := hid hs
      clear hs
      go_wp2_with (first | (refine store_st rfl 54 (.tmp 14) (.tmp 38) rfl w5.heap.size #[.int .u8 (x.cl : Int), .int .u32 (x.s : Int), .int .i64 x.e, .int .u32 (x.j : Int), .int .u8 (x.st : Int), .int .i64 x.c] rfl rfl #[.int .u8 0, .int .u32 0, .int .i64 0, .int .u32 0, .int .u8 0, .int .i64 0] 6 HA.out size_reply rfl rfl (by simp [Value.oneCell']) ?_) | fail)
      refine (eyeend_bad _ be v5 s5 _ HF6.out.2.1 HS5.out).mono ?_
      rintro e w' ⟨rfl, rfl⟩
      go_wp2_with (first | (refine load_st rfl 54 (.tmp 10) rfl (w.heap.size + 1) rfl #[.int .u8 0, .int .u32 0, .int .i64 0, .int .u32 0, .int .u8 0, .int .i64 0] _ 6 HZ106.out Try.underlying54 size_reply rfl ?_) | (refine store_st rfl 54 (.tmp 8) (.tmp 57) rfl w.heap.size #[.int .u8 0, .int .u32 0, .int .i64 0, .int .u32 0, .int .u8 0, .int .i64 0] rfl rfl #[.int .u8 0, .int .u32 0, .int .i64 0, .int .u32 0, .int .u8 0, .int .i64 0] 6 HZ86.out size_reply rfl rfl (by simp [Value.oneCell']) ?_) | fail)
      refine bodyPost_ret (results_cell2 rfl _ _ _ w.heap.size 54 #[.int .u8 0, .int .u32 0, .int .i64 0, .int .u32 0, .int .u8 0, .int .i64 0] (0, 0) _ rfl rfl (setRow_heap ((w5.alloc (.cells #[.int .u8 0, .int .u32 0, .int .i64 0, .int .u32 0, .int .u8 0, .int .i64 0] 54)).setRow w5.heap.size #[.int .u8 (x.cl : Int), .int .u32 (x.s : Int), .int .i64 x.e, .int .u32 (x.j : Int), .int .u8 (x.st : Int), .int .i64 x.c]) w.heap.size _ _ 54 _ HZ86.out) Try.underlying54 size_reply) rfl ⟨Note.R.zero, 4, rfl, .inr (.inr ⟨HU.out, fun y hy e => (by have h := Note.R.found HX.out HN.out HR5.out HL5.out y hy e; exact HS5.out (congrArg Prod.fst h.2)), rfl, rfl⟩), (by unfold Note.R.wf Note.R.zero; simp), HW6.out.trans (setRow_below _ (Nat.le_refl _))⟩
  · skip
    go_wp2_with (first | (refine store_st rfl 54 (.tmp 14) (.tmp 38) rfl w5.heap.size #[.int .u8 (x.cl : Int), .int .u32 (x.s : Int), .int .i64 x.e, .int .u32 (x.j : Int), .int .u8 (x.st : Int), .int .i64 x.c] rfl rfl #[.int .u8 0, .int .u32 0, .int .i64 0, .int .u32 0, .int .u8 0, .int .i64 0] 6 HA.out size_reply rfl rfl (by simp [Value.oneCell']) ?_) | (refine load_st rfl 54 (.tmp 10) rfl (w.heap.size + 1) rfl #[.int .u8 0, .int .u32 0, .int .i64 0, .int .u32 0, .int .u8 0, .int .i64 0] _ 6 HZ106.out Try.underlying54 size_reply rfl ?_) | (refine store_st rfl 54 (.tmp 8) (.tmp 57) rfl w.heap.size #[.int .u8 0, .int .u32 0, .int .i64 0, .int .u32 0, .int .u8 0, .int .i64 0] rfl rfl #[.int .u8 0, .int .u32 0, .int .i64 0, .int .u32 0, .int .u8 0, .int .i64 0] 6 HZ86.out size_reply rfl rfl (by simp [Value.oneCell']) ?_) | fail)
    refine bodyPost_ret (results_cell2 rfl _ _ _ w.heap.size 54 #[.int .u8 0, .int .u32 0, .int .i64 0, .int .u32 0, .int .u8 0, .int .i64 0] (0, 0) _ rfl rfl (setRow_heap ((w5.alloc (.cells #[.int .u8 0, .int .u32 0, .int .i64 0, .int .u32 0, .int .u8 0, .int .i64 0] 54)).setRow w5.heap.size #[.int .u8 (x.cl : Int), .int .u32 (x.s : Int), .int .i64 x.e, .int .u32 (x.j : Int), .int .u8 (x.st : Int), .int .i64 x.c]) w.heap.size _ _ 54 _ HZ86.out) Try.underlying54 size_reply) rfl ⟨Note.R.zero, 4, rfl, .inr (.inr ⟨HU.out, fun y hy e => (by have h := Note.R.found HX.out HN.out HR5.out HL5.out y hy e; cases h.2), rfl, rfl⟩), (by unfold Note.R.wf Note.R.zero; simp), HW6.out.trans (setRow_below _ (Nat.le_refl _))⟩

set_option maxRecDepth 100000 in
set_option maxHeartbeats 2000000 in
theorem rgreply_any (pv : Value) (l : List UInt8) (w : World) (hrd : Rd w pv l) (hl : l.length ≤ 100000) :
    Calls Try.prog 53 #[pv, .int .u64 3, .func (.func 54) #[] #[], .func (.func 55) #[] #[]] w fun e w' => ∃ (x : Note.R) (ec : Int), e = .returned (.tuple #[.agg #[.int .u8 (x.cl : Int), .int .u32 (x.s : Int), .int .i64 x.e, .int .u32 (x.j : Int), .int .u8 (x.st : Int), .int .i64 x.c], .int .i64 ec]) ∧ Note.Ans Note.R.ok Note.R.enc Note.R.zero l x ec ∧ x.wf ∧ Below w.heap.size w w' := by
  by_cases hu : Knot.uerr l = 0
  · obtain ⟨n0, s0, hn⟩ : ∃ n s, Ink.stNum (some (Knot.utext l)) = (n, s) := ⟨_, _, rfl⟩
    by_cases ht : n0 = 3
    · subst ht
      exact rgreply_body pv l w hrd hl hu s0 hn
    · exact rgreply_tag pv l w hrd hl hu n0 s0 hn ht
  · exact rgreply_err pv l w hrd hl hu

set_option maxRecDepth 100000 in
set_option maxHeartbeats 2000000 in
theorem readreply_any (pv : Value) (l : List UInt8) (w : World) (hrd : Rd w pv l) (hl : l.length ≤ 100000) :
    Calls Try.prog 22 #[pv] w fun e w' => ∃ (x : Note.R) (ec : Int), e = .returned (.tuple #[.agg #[.int .u8 (x.cl : Int), .int .u32 (x.s : Int), .int .i64 x.e, .int .u32 (x.j : Int), .int .u8 (x.st : Int), .int .i64 x.c], .int .i64 ec]) ∧ Note.Ans Note.R.ok Note.R.enc Note.R.zero l x ec ∧ x.wf ∧ Below w.heap.size w w' := by
  have H := hid (rgreply_any pv l (w.alloc (.cells #[.int .u8 0, .int .u32 0, .int .i64 0, .int .u32 0, .int .u8 0, .int .i64 0] 54)) (hrd.alloc _) hl)
  clear hrd
  go_enter Try.func22, Try.ntmps22
  go_wp2_with fail
  refine H.out.mono ?_
  rintro e w1 ⟨x, ec, rfl, hans, hxw, hb1⟩
  have HANS := hid hans
  have HX := hid hxw
  have hs1 := hb1.size
  simp at hs1
  have HZ1 := hid ((hb1.block w.heap.size (by simp)).trans (heap_alloc_new w (.cells #[.int .u8 0, .int .u32 0, .int .i64 0, .int .u32 0, .int .u8 0, .int .i64 0] 54)))
  have HW1 := hid (((Below.refl w.heap.size w).alloc (Nat.le_refl _) (.cells #[.int .u8 0, .int .u32 0, .int .i64 0, .int .u32 0, .int .u8 0, .int .i64 0] 54)).trans (hb1.mono (by simp)))
  clear hans hxw hb1
  go_wp2_with (first | (refine store_st rfl 54 (.tmp 2) (.tmp 6) rfl w.heap.size #[.int .u8 (x.cl : Int), .int .u32 (x.s : Int), .int .i64 x.e, .int .u32 (x.j : Int), .int .u8 (x.st : Int), .int .i64 x.c] rfl rfl #[.int .u8 0, .int .u32 0, .int .i64 0, .int .u32 0, .int .u8 0, .int .i64 0] 6 HZ1.out size_reply rfl rfl (by simp [Value.oneCell']) ?_) | fail)
  exact bodyPost_ret (results_cell2 rfl _ _ _ w.heap.size 54 #[.int .u8 (x.cl : Int), .int .u32 (x.s : Int), .int .i64 x.e, .int .u32 (x.j : Int), .int .u8 (x.st : Int), .int .i64 x.c] (0, 0) _ rfl rfl (setRow_heap w1 w.heap.size _ _ 54 _ HZ1.out) Try.underlying54 size_reply) rfl ⟨x, ec, rfl, HANS.out, HX.out, HW1.out.trans (setRow_below _ (Nat.le_refl _))⟩


theorem size_request : (Try.prog.info? 48).map (·.size) = some 7 := by kernel_rfl

theorem request_zero_wf : Note.Q.zero.wf := (by unfold Note.Q.wf Note.Q.zero; simp)

set_option maxRecDepth 100000 in
set_option maxHeartbeats 2000000 in
theorem rgrequest_err (pv : Value) (l : List UInt8) (w : World) (hrd : Rd w pv l) (hl : l.length ≤ 100000) (hu : Knot.uerr l ≠ 0) :
    Calls Try.prog 49 #[pv, .int .u64 2, .func (.func 50) #[] #[], .func (.func 51) #[] #[]] w fun e w' => ∃ (x : Note.Q) (ec : Int), e = .returned (.tuple #[.agg #[.int .u8 (x.cl : Int), .int .u32 (x.s : Int), .int .u8 (x.k : Int), .int .u8 (x.t : Int), .int .i64 x.kk, .int .i64 x.w, .int .u32 (x.j : Int)], .int .i64 ec]) ∧ Note.Ans Note.Q.ok Note.Q.enc Note.Q.zero l x ec ∧ x.wf ∧ Below w.heap.size w w' := by
  obtain ⟨ku, hku⟩ : ∃ ku, ku = Knot.uerr l := ⟨_, rfl⟩
  rw [← hku] at hu
  have hq : ((ku : Int) != 0) = true := by rw [bne_iff_ne]; exact hu
  have HU := hid hu
  have HK := hid hku
  have HRD := hid ((hrd.alloc (.cells #[.int .u8 0, .int .u32 0, .int .u8 0, .int .u8 0, .int .i64 0, .int .i64 0, .int .u32 0] 48)).alloc (.cells #[.int .u8 0, .int .u32 0, .int .u8 0, .int .u8 0, .int .i64 0, .int .i64 0, .int .u32 0] 48))
  clear hu hku hrd
  go_enter Try.func49, Try.ntmps49
  go_wp2_with fail
  refine (untie_any pv l _ HRD.out (by omega)).mono ?_
  rintro e w1 ⟨uv, rfl, hou, hb1⟩
  rw [← HK.out]
  have hs1 := hb1.size
  simp at hs1
  have hz8 : w1.heap[w.heap.size]? = some (.cells #[.int .u8 0, .int .u32 0, .int .u8 0, .int .u8 0, .int .i64 0, .int .i64 0, .int .u32 0] 48 (0, 0)) := (hb1.block _ (by simp <;> omega)).trans (heap_alloc2_old w _ _)
  have hz10 : w1.heap[w.heap.size + 1]? = some (.cells #[.int .u8 0, .int .u32 0, .int .u8 0, .int .u8 0, .int .i64 0, .int .i64 0, .int .u32 0] 48 (0, 0)) := (hb1.block _ (by simp)).trans (heap_alloc2_new w _ _)
  have HZ8 := hid hz8
  have HZ10 := hid hz10
  have HW1 : Below w.heap.size w w1 := (((Below.refl _ _).alloc (Nat.le_refl _) _).alloc (by simp) _).trans (hb1.mono (by simp; omega))
  clear hz8 hz10 hb1 hou
  go_wp2_with (first | (refine load_st rfl 48 (.tmp 10) rfl (w.heap.size + 1) rfl #[.int .u8 0, .int .u32 0, .int .u8 0, .int .u8 0, .int .i64 0, .int .i64 0, .int .u32 0] _ 7 HZ10.out Try.underlying48 size_request rfl ?_) | (refine store_st rfl 48 (.tmp 8) (.tmp 22) rfl w.heap.size #[.int .u8 0, .int .u32 0, .int .u8 0, .int .u8 0, .int .i64 0, .int .i64 0, .int .u32 0] rfl rfl #[.int .u8 0, .int .u32 0, .int .u8 0, .int .u8 0, .int .i64 0, .int .i64 0, .int .u32 0] 7 HZ8.out size_request rfl rfl (by simp [Value.oneCell']) ?_) | fail)
  refine bodyPost_ret (results_cell2 rfl _ _ _ w.heap.size 48 #[.int .u8 0, .int .u32 0, .int .u8 0, .int .u8 0, .int .i64 0, .int .i64 0, .int .u32 0] (0, 0) _ rfl rfl (setRow_heap w1 w.heap.size _ _ 48 _ HZ8.out) Try.underlying48 size_request) rfl ⟨Note.Q.zero, ku, rfl, .inl ⟨by rw [← HK.out]; exact HU.out, rfl, HK.out⟩, (by unfold Note.Q.wf Note.Q.zero; simp), HW1.trans (setRow_below _ (Nat.le_refl _))⟩

set_option maxRecDepth 100000 in
set_option maxHeartbeats 2000000 in
theorem rgrequest_tag (pv : Value) (l : List UInt8) (w : World) (hrd : Rd w pv l) (hl : l.length ≤ 100000) (hu : Knot.uerr l = 0) (n0 : Nat) (s0 : Option (List UInt8)) (hn : Ink.stNum (some (Knot.utext l)) = (n0, s0)) (ht : n0 ≠ 2) :
    Calls Try.prog 49 #[pv, .int .u64 2, .func (.func 50) #[] #[], .func (.func 51) #[] #[]] w fun e w' => ∃ (x : Note.Q) (ec : Int), e = .returned (.tuple #[.agg #[.int .u8 (x.cl : Int), .int .u32 (x.s : Int), .int .u8 (x.k : Int), .int .u8 (x.t : Int), .int .i64 x.kk, .int .i64 x.w, .int .u32 (x.j : Int)], .int .i64 ec]) ∧ Note.Ans Note.Q.ok Note.Q.enc Note.Q.zero l x ec ∧ x.wf ∧ Below w.heap.size w w' := by
  have hq : ((n0 : Int) != 2) = true := by rw [bne_iff_ne]; omega
  have HT := hid ht
  clear ht
  have HRD := hid ((hrd.alloc (.cells #[.int .u8 0, .int .u32 0, .int .u8 0, .int .u8 0, .int .i64 0, .int .i64 0, .int .u32 0] 48)).alloc (.cells #[.int .u8 0, .int .u32 0, .int .u8 0, .int .u8 0, .int .i64 0, .int .i64 0, .int .u32 0] 48))
  have hul := utext_length l
  have HU := hid hu
  have HN := hid hn
  clear hu hrd hn
  go_enter Try.func49, Try.ntmps49
  go_wp2_with fail
  refine (untie_any pv l _ HRD.out (by omega)).mono ?_
  rintro e w1 ⟨uv, rfl, hou, hb1⟩
  rw [HU.out]
  have hs1 := hb1.size
  simp at hs1
  have hz8 : w1.heap[w.heap.size]? = some (.cells #[.int .u8 0, .int .u32 0, .int .u8 0, .int .u8 0, .int .i64 0, .int .i64 0, .int .u32 0] 48 (0, 0)) := (hb1.block _ (by simp <;> omega)).trans (heap_alloc2_old w _ _)
  have hz10 : w1.heap[w.heap.size + 1]? = some (.cells #[.int .u8 0, .int .u32 0, .int .u8 0, .int .u8 0, .int .i64 0, .int .i64 0, .int .u32 0] 48 (0, 0)) := (hb1.block _ (by simp)).trans (heap_alloc2_new w _ _)
  have HW1 : Below w.heap.size w w1 := (((Below.refl _ _).alloc (Nat.le_refl _) _).alloc (by simp) _).trans (hb1.mono (by simp; omega))
  go_wp2_with fail
  refine (read_any uv (Knot.utext l) w1 hou.rd (by omega)).mono ?_
  rintro e w2 ⟨be, ve, rfl, hey, hb2⟩
  have hs2 := hb2.size
  have hbe := hey.lt
  have hbeb := hey.2.2.2
  have hvo := hey.2.2.1
  have h3 := (Below.refl w2.heap.size w2).alloc (Nat.le_refl _) (.cells #[.pointer (some ⟨be, 0, none⟩), .bool false] 86)
  have HF3 := hid (show FldAt (w2.alloc (.cells #[.pointer (some ⟨be, 0, none⟩), .bool false] 86)) w1.heap.size w2.heap.size be ve (some (Knot.utext l), false) from
    ⟨heap_alloc_new w2 _, EyeAt.below hey h3, by omega, by omega, fun e => by have := (hvo _ e).2.2; omega⟩)
  have hz82 := (hb2.block w.heap.size (by omega)).trans hz8
  have hz102 := (hb2.block (w.heap.size + 1) (by omega)).trans hz10
  have HZ8 := hid ((h3.block w.heap.size (by omega)).trans hz82)
  have HZ10 := hid ((h3.block (w.heap.size + 1) (by omega)).trans hz102)
  have HW3 := hid (HW1.trans ((hb2.mono (by omega)).trans (h3.mono (by omega))))
  have hc3 := HF3.out.cell0
  clear hz8 hz10 hz82 hz102 hb1 hou hb2 hvo hey HW1 h3
  go_wp2_with fail
  refine (eyenum_st w1.heap.size be ve (some (Knot.utext l)) _ HF3.out.2.1).mono ?_
  rintro e w4 ⟨rfl, v4, h4, hk4, hv4⟩
  rw [HN.out] at h4 ⊢
  have HF4 := hid (HF3.out.eye h4 hk4 hv4)
  have hs4 := hk4.size
  simp at hs4
  have HZ84 := hid ((hk4.block w.heap.size (by simp <;> omega) (by omega)).trans HZ8.out)
  have HZ104 := hid ((hk4.block (w.heap.size + 1) (by simp <;> omega) (by omega)).trans HZ10.out)
  have HW4 := hid (HW3.out.trans (hk4.below (B := w.heap.size) (by simp <;> omega) (fun i hi => by omega)))
  clear h4 hk4 hv4 hc3 HF3 HZ8 HZ10 HW3
  go_wp2_with (first | (refine load_st rfl 48 (.tmp 10) rfl (w.heap.size + 1) rfl #[.int .u8 0, .int .u32 0, .int .u8 0, .int .u8 0, .int .i64 0, .int .i64 0, .int .u32 0] _ 7 HZ104.out Try.underlying48 size_request rfl ?_) | (refine store_st rfl 48 (.tmp 8) (.tmp 35) rfl w.heap.size #[.int .u8 0, .int .u32 0, .int .u8 0, .int .u8 0, .int .i64 0, .int .i64 0, .int .u32 0] rfl rfl #[.int .u8 0, .int .u32 0, .int .u8 0, .int .u8 0, .int .i64 0, .int .i64 0, .int .u32 0] 7 HZ84.out size_request rfl rfl (by simp [Value.oneCell']) ?_) | fail)
  refine bodyPost_ret (results_cell2 rfl _ _ _ w.heap.size 48 #[.int .u8 0, .int .u32 0, .int .u8 0, .int .u8 0, .int .i64 0, .int .i64 0, .int .u32 0] (0, 0) _ rfl rfl (setRow_heap w4 w.heap.size _ _ 48 _ HZ84.out) Try.underlying48 size_request) rfl ⟨Note.Q.zero, 4, rfl, .inr (.inr ⟨HU.out, Note.Q.no_tag HN.out HT.out, rfl, rfl⟩), (by unfold Note.Q.wf Note.Q.zero; simp), HW4.out.trans (setRow_below _ (Nat.le_refl _))⟩

set_option maxRecDepth 100000 in
set_option maxHeartbeats 4000000 in
theorem rgrequest_body (pv : Value) (l : List UInt8) (w : World) (hrd : Rd w pv l) (hl : l.length ≤ 100000) (hu : Knot.uerr l = 0) (s0 : Option (List UInt8)) (hn : Ink.stNum (some (Knot.utext l)) = (2, s0)) :
    Calls Try.prog 49 #[pv, .int .u64 2, .func (.func 50) #[] #[], .func (.func 51) #[] #[]] w fun e w' => ∃ (x : Note.Q) (ec : Int), e = .returned (.tuple #[.agg #[.int .u8 (x.cl : Int), .int .u32 (x.s : Int), .int .u8 (x.k : Int), .int .u8 (x.t : Int), .int .i64 x.kk, .int .i64 x.w, .int .u32 (x.j : Int)], .int .i64 ec]) ∧ Note.Ans Note.Q.ok Note.Q.enc Note.Q.zero l x ec ∧ x.wf ∧ Below w.heap.size w w' := by
  have HRD := hid ((hrd.alloc (.cells #[.int .u8 0, .int .u32 0, .int .u8 0, .int .u8 0, .int .i64 0, .int .i64 0, .int .u32 0] 48)).alloc (.cells #[.int .u8 0, .int .u32 0, .int .u8 0, .int .u8 0, .int .i64 0, .int .i64 0, .int .u32 0] 48))
  have hul := utext_length l
  have HU := hid hu
  have HN := hid hn
  clear hu hrd hn
  go_enter Try.func49, Try.ntmps49
  go_wp2_with fail
  refine (untie_any pv l _ HRD.out (by omega)).mono ?_
  rintro e w1 ⟨uv, rfl, hou, hb1⟩
  rw [HU.out]
  have hs1 := hb1.size
  simp at hs1
  have hz8 : w1.heap[w.heap.size]? = some (.cells #[.int .u8 0, .int .u32 0, .int .u8 0, .int .u8 0, .int .i64 0, .int .i64 0, .int .u32 0] 48 (0, 0)) := (hb1.block _ (by simp <;> omega)).trans (heap_alloc2_old w _ _)
  have hz10 : w1.heap[w.heap.size + 1]? = some (.cells #[.int .u8 0, .int .u32 0, .int .u8 0, .int .u8 0, .int .i64 0, .int .i64 0, .int .u32 0] 48 (0, 0)) := (hb1.block _ (by simp)).trans (heap_alloc2_new w _ _)
  have HW1 : Below w.heap.size w w1 := (((Below.refl _ _).alloc (Nat.le_refl _) _).alloc (by simp) _).trans (hb1.mono (by simp; omega))
  go_wp2_with fail
  refine (read_any uv (Knot.utext l) w1 hou.rd (by omega)).mono ?_
  rintro e w2 ⟨be, ve, rfl, hey, hb2⟩
  have hs2 := hb2.size
  have hbe := hey.lt
  have hbeb := hey.2.2.2
  have hvo := hey.2.2.1
  have h3 := (Below.refl w2.heap.size w2).alloc (Nat.le_refl _) (.cells #[.pointer (some ⟨be, 0, none⟩), .bool false] 86)
  have HF3 := hid (show FldAt (w2.alloc (.cells #[.pointer (some ⟨be, 0, none⟩), .bool false] 86)) w1.heap.size w2.heap.size be ve (some (Knot.utext l), false) from
    ⟨heap_alloc_new w2 _, EyeAt.below hey h3, by omega, by omega, fun e => by have := (hvo _ e).2.2; omega⟩)
  have hz82 := (hb2.block w.heap.size (by omega)).trans hz8
  have hz102 := (hb2.block (w.heap.size + 1) (by omega)).trans hz10
  have HZ8 := hid ((h3.block w.heap.size (by omega)).trans hz82)
  have HZ10 := hid ((h3.block (w.heap.size + 1) (by omega)).trans hz102)
  have HW3 := hid (HW1.trans ((hb2.mono (by omega)).trans (h3.mono (by omega))))
  have hc3 := HF3.out.cell0
  clear hz8 hz10 hz82 hz102 hb1 hou hb2 hvo hey HW1 h3
  go_wp2_with fail
  refine (eyenum_st w1.heap.size be ve (some (Knot.utext l)) _ HF3.out.2.1).mono ?_
  rintro e w4 ⟨rfl, v4, h4, hk4, hv4⟩
  rw [HN.out] at h4 ⊢
  have HF4 := hid (HF3.out.eye h4 hk4 hv4)
  have hs4 := hk4.size
  simp at hs4
  have HZ84 := hid ((hk4.block w.heap.size (by simp <;> omega) (by omega)).trans HZ8.out)
  have HZ104 := hid ((hk4.block (w.heap.size + 1) (by simp <;> omega) (by omega)).trans HZ10.out)
  have HW4 := hid (HW3.out.trans (hk4.below (B := w.heap.size) (by simp <;> omega) (fun i hi => by omega)))
  clear h4 hk4 hv4 hc3 HF3 HZ8 HZ10 HW3
  go_wp2_with fail
  refine (rdrequest_any w4 w1.heap.size w2.heap.size be v4 (s0, false) HF4.out (by omega)).mono ?_
  rintro e w5 ⟨x, rfl, hxw, ⟨v5, st1, ⟨s5, o5⟩, hf5, hr5, hl5⟩, hb5⟩
  have hs5 := hb5.size
  have HX := hid hxw
  have HR5 := hid hr5
  have HL5 := hid hl5
  have hlt5 := hf5.lt
  have HZ85 := hid ((hb5.block w.heap.size (by omega)).trans HZ84.out)
  have HZ105 := hid ((hb5.block (w.heap.size + 1) (by omega)).trans HZ104.out)
  have HA := hid (heap_alloc_new w5 (.cells #[.int .u8 0, .int .u32 0, .int .u8 0, .int .u8 0, .int .i64 0, .int .i64 0, .int .u32 0] 48))
  have h6 : Below w5.heap.size w5 ((w5.alloc (.cells #[.int .u8 0, .int .u32 0, .int .u8 0, .int .u8 0, .int .i64 0, .int .i64 0, .int .u32 0] 48)).setRow w5.heap.size #[.int .u8 (x.cl : Int), .int .u32 (x.s : Int), .int .u8 (x.k : Int), .int .u8 (x.t : Int), .int .i64 x.kk, .int .i64 x.w, .int .u32 (x.j : Int)]) := ((Below.refl _ _).alloc (Nat.le_refl _) _).trans (setRow_below _ (Nat.le_refl _))
  have HF6 := hid (hf5.below h6)
  have HC6 := hid (setRow_heap (w5.alloc (.cells #[.int .u8 0, .int .u32 0, .int .u8 0, .int .u8 0, .int .i64 0, .int .i64 0, .int .u32 0] 48)) w5.heap.size _ #[.int .u8 (x.cl : Int), .int .u32 (x.s : Int), .int .u8 (x.k : Int), .int .u8 (x.t : Int), .int .i64 x.kk, .int .i64 x.w, .int .u32 (x.j : Int)] 48 _ HA.out)
  have HZ86 := hid ((h6.block w.heap.size (by omega)).trans HZ85.out)
  have HZ106 := hid ((h6.block (w.heap.size + 1) (by omega)).trans HZ105.out)
  have HW6 := hid (HW4.out.trans ((hb5.mono (by omega)).trans (h6.mono (by omega))))
  have hc60 := HF6.out.cell0
  have hc61 := HF6.out.cell1
  skip
  clear hf5 hr5 hl5 hxw h6 hb5
  cases o5
  · by_cases hs : s5 = some []
    · subst hs
      cases hrt : x.right
      · have HRT := hid hrt
        clear hrt
        go_wp2_with (first | (refine store_st rfl 48 (.tmp 14) (.tmp 38) rfl w5.heap.size #[.int .u8 (x.cl : Int), .int .u32 (x.s : Int), .int .u8 (x.k : Int), .int .u8 (x.t : Int), .int .i64 x.kk, .int .i64 x.w, .int .u32 (x.j : Int)] rfl rfl #[.int .u8 0, .int .u32 0, .int .u8 0, .int .u8 0, .int .i64 0, .int .i64 0, .int .u32 0] 7 HA.out size_request rfl rfl (by simp [Value.oneCell']) ?_) | fail)
        refine (eyeend_good _ be v5 _ HF6.out.2.1).mono ?_
        rintro e w' ⟨rfl, rfl⟩
        have hcx0 : ((w5.alloc (.cells #[.int .u8 0, .int .u32 0, .int .u8 0, .int .u8 0, .int .i64 0, .int .i64 0, .int .u32 0] 48)).setRow w5.heap.size #[.int .u8 (x.cl : Int), .int .u32 (x.s : Int), .int .u8 (x.k : Int), .int .u8 (x.t : Int), .int .i64 x.kk, .int .i64 x.w, .int .u32 (x.j : Int)]).cell? ⟨w5.heap.size, 0, none⟩ = some (.int .u8 (x.cl : Int)) := (cell_of_row _ _ _ _ _ _ HC6.out).trans rfl
        have hcx1 : ((w5.alloc (.cells #[.int .u8 0, .int .u32 0, .int .u8 0, .int .u8 0, .int .i64 0, .int .i64 0, .int .u32 0] 48)).setRow w5.heap.size #[.int .u8 (x.cl : Int), .int .u32 (x.s : Int), .int .u8 (x.k : Int), .int .u8 (x.t : Int), .int .i64 x.kk, .int .i64 x.w, .int .u32 (x.j : Int)]).cell? ⟨w5.heap.size, 1, none⟩ = some (.int .u32 (x.s : Int)) := (cell_of_row _ _ _ _ _ _ HC6.out).trans rfl
        have hcx2 : ((w5.alloc (.cells #[.int .u8 0, .int .u32 0, .int .u8 0, .int .u8 0, .int .i64 0, .int .i64 0, .int .u32 0] 48)).setRow w5.heap.size #[.int .u8 (x.cl : Int), .int .u32 (x.s : Int), .int .u8 (x.k : Int), .int .u8 (x.t : Int), .int .i64 x.kk, .int .i64 x.w, .int .u32 (x.j : Int)]).cell? ⟨w5.heap.size, 2, none⟩ = some (.int .u8 (x.k : Int)) := (cell_of_row _ _ _ _ _ _ HC6.out).trans rfl
        have hcx3 : ((w5.alloc (.cells #[.int .u8 0, .int .u32 0, .int .u8 0, .int .u8 0, .int .i64 0, .int .i64 0, .int .u32 0] 48)).setRow w5.heap.size #[.int .u8 (x.cl : Int), .int .u32 (x.s : Int), .int .u8 (x.k : Int), .int .u8 (x.t : Int), .int .i64 x.kk, .int .i64 x.w, .int .u32 (x.j : Int)]).cell? ⟨w5.heap.size, 3, none⟩ = some (.int .u8 (x.t : Int)) := (cell_of_row _ _ _ _ _ _ HC6.out).trans rfl
        have hcx4 : ((w5.alloc (.cells #[.int .u8 0, .int .u32 0, .int .u8 0, .int .u8 0, .int .i64 0, .int .i64 0, .int .u32 0] 48)).setRow w5.heap.size #[.int .u8 (x.cl : Int), .int .u32 (x.s : Int), .int .u8 (x.k : Int), .int .u8 (x.t : Int), .int .i64 x.kk, .int .i64 x.w, .int .u32 (x.j : Int)]).cell? ⟨w5.heap.size, 4, none⟩ = some (.int .i64 x.kk) := (cell_of_row _ _ _ _ _ _ HC6.out).trans rfl
        have hcx5 : ((w5.alloc (.cells #[.int .u8 0, .int .u32 0, .int .u8 0, .int .u8 0, .int .i64 0, .int .i64 0, .int .u32 0] 48)).setRow w5.heap.size #[.int .u8 (x.cl : Int), .int .u32 (x.s : Int), .int .u8 (x.k : Int), .int .u8 (x.t : Int), .int .i64 x.kk, .int .i64 x.w, .int .u32 (x.j : Int)]).cell? ⟨w5.heap.size, 5, none⟩ = some (.int .i64 x.w) := (cell_of_row _ _ _ _ _ _ HC6.out).trans rfl
        have hcx6 : ((w5.alloc (.cells #[.int .u8 0, .int .u32 0, .int .u8 0, .int .u8 0, .int .i64 0, .int .i64 0, .int .u32 0] 48)).setRow w5.heap.size #[.int .u8 (x.cl : Int), .int .u32 (x.s : Int), .int .u8 (x.k : Int), .int .u8 (x.t : Int), .int .i64 x.kk, .int .i64 x.w, .int .u32 (x.j : Int)]).cell? ⟨w5.heap.size, 6, none⟩ = some (.int .u32 (x.j : Int)) := (cell_of_row _ _ _ _ _ _ HC6.out).trans rfl
        go_wp2_with fail
        clear hcx0 hcx1 hcx2 hcx3 hcx4 hcx5 hcx6
        refine (rightrequest_any x _).mono ?_
        rintro e w7 ⟨rfl, hb7⟩
        rw [HRT.out]
        have hs7 := hb7.size
        simp at hs7
        have HZ87 := hid ((hb7.block w.heap.size (by simp <;> omega)).trans HZ86.out)
        have HZ107 := hid ((hb7.block (w.heap.size + 1) (by simp <;> omega)).trans HZ106.out)
        have HC7 := hid ((hb7.block w5.heap.size (by simp <;> omega)).trans HC6.out)
        have HW7 := hid (HW6.out.trans (hb7.mono (by simp <;> omega)))
        go_wp2_with (first | (refine load_st rfl 48 (.tmp 10) rfl (w.heap.size + 1) rfl #[.int .u8 0, .int .u32 0, .int .u8 0, .int .u8 0, .int .i64 0, .int .i64 0, .int .u32 0] _ 7 HZ107.out Try.underlying48 size_request rfl ?_) | (refine store_st rfl 48 (.tmp 8) (.tmp 57) rfl w.heap.size #[.int .u8 0, .int .u32 0, .int .u8 0, .int .u8 0, .int .i64 0, .int .i64 0, .int .u32 0] rfl rfl #[.int .u8 0, .int .u32 0, .int .u8 0, .int .u8 0, .int .i64 0, .int .i64 0, .int .u32 0] 7 HZ87.out size_request rfl rfl (by simp [Value.oneCell']) ?_) | fail)
        refine bodyPost_ret (results_cell2 rfl _ _ _ w.heap.size 48 #[.int .u8 0, .int .u32 0, .int .u8 0, .int .u8 0, .int .i64 0, .int .i64 0, .int .u32 0] (0, 0) _ rfl rfl (setRow_heap w7 w.heap.size _ _ 48 _ HZ87.out) Try.underlying48 size_request) rfl ⟨Note.Q.zero, 4, rfl, .inr (.inr ⟨HU.out, fun y hy e => (by have h := Note.Q.found HX.out HN.out HR5.out HL5.out y hy e; have h2 := hy.2; rw [← h.1, HRT.out] at h2; cases h2), rfl, rfl⟩), (by unfold Note.Q.wf Note.Q.zero; simp), HW7.out.trans (setRow_below _ (Nat.le_refl _))⟩
      · have HRT := hid hrt
        clear hrt
        go_wp2_with (first | (refine store_st rfl 48 (.tmp 14) (.tmp 38) rfl w5.heap.size #[.int .u8 (x.cl : Int), .int .u32 (x.s : Int), .int .u8 (x.k : Int), .int .u8 (x.t : Int), .int .i64 x.kk, .int .i64 x.w, .int .u32 (x.j : Int)] rfl rfl #[.int .u8 0, .int .u32 0, .int .u8 0, .int .u8 0, .int .i64 0, .int .i64 0, .int .u32 0] 7 HA.out size_request rfl rfl (by simp [Value.oneCell']) ?_) | fail)
        refine (eyeend_good _ be v5 _ HF6.out.2.1).mono ?_
        rintro e w' ⟨rfl, rfl⟩
        have hcx0 : ((w5.alloc (.cells #[.int .u8 0, .int .u32 0, .int .u8 0, .int .u8 0, .int .i64 0, .int .i64 0, .int .u32 0] 48)).setRow w5.heap.size #[.int .u8 (x.cl : Int), .int .u32 (x.s : Int), .int .u8 (x.k : Int), .int .u8 (x.t : Int), .int .i64 x.kk, .int .i64 x.w, .int .u32 (x.j : Int)]).cell? ⟨w5.heap.size, 0, none⟩ = some (.int .u8 (x.cl : Int)) := (cell_of_row _ _ _ _ _ _ HC6.out).trans rfl
        have hcx1 : ((w5.alloc (.cells #[.int .u8 0, .int .u32 0, .int .u8 0, .int .u8 0, .int .i64 0, .int .i64 0, .int .u32 0] 48)).setRow w5.heap.size #[.int .u8 (x.cl : Int), .int .u32 (x.s : Int), .int .u8 (x.k : Int), .int .u8 (x.t : Int), .int .i64 x.kk, .int .i64 x.w, .int .u32 (x.j : Int)]).cell? ⟨w5.heap.size, 1, none⟩ = some (.int .u32 (x.s : Int)) := (cell_of_row _ _ _ _ _ _ HC6.out).trans rfl
        have hcx2 : ((w5.alloc (.cells #[.int .u8 0, .int .u32 0, .int .u8 0, .int .u8 0, .int .i64 0, .int .i64 0, .int .u32 0] 48)).setRow w5.heap.size #[.int .u8 (x.cl : Int), .int .u32 (x.s : Int), .int .u8 (x.k : Int), .int .u8 (x.t : Int), .int .i64 x.kk, .int .i64 x.w, .int .u32 (x.j : Int)]).cell? ⟨w5.heap.size, 2, none⟩ = some (.int .u8 (x.k : Int)) := (cell_of_row _ _ _ _ _ _ HC6.out).trans rfl
        have hcx3 : ((w5.alloc (.cells #[.int .u8 0, .int .u32 0, .int .u8 0, .int .u8 0, .int .i64 0, .int .i64 0, .int .u32 0] 48)).setRow w5.heap.size #[.int .u8 (x.cl : Int), .int .u32 (x.s : Int), .int .u8 (x.k : Int), .int .u8 (x.t : Int), .int .i64 x.kk, .int .i64 x.w, .int .u32 (x.j : Int)]).cell? ⟨w5.heap.size, 3, none⟩ = some (.int .u8 (x.t : Int)) := (cell_of_row _ _ _ _ _ _ HC6.out).trans rfl
        have hcx4 : ((w5.alloc (.cells #[.int .u8 0, .int .u32 0, .int .u8 0, .int .u8 0, .int .i64 0, .int .i64 0, .int .u32 0] 48)).setRow w5.heap.size #[.int .u8 (x.cl : Int), .int .u32 (x.s : Int), .int .u8 (x.k : Int), .int .u8 (x.t : Int), .int .i64 x.kk, .int .i64 x.w, .int .u32 (x.j : Int)]).cell? ⟨w5.heap.size, 4, none⟩ = some (.int .i64 x.kk) := (cell_of_row _ _ _ _ _ _ HC6.out).trans rfl
        have hcx5 : ((w5.alloc (.cells #[.int .u8 0, .int .u32 0, .int .u8 0, .int .u8 0, .int .i64 0, .int .i64 0, .int .u32 0] 48)).setRow w5.heap.size #[.int .u8 (x.cl : Int), .int .u32 (x.s : Int), .int .u8 (x.k : Int), .int .u8 (x.t : Int), .int .i64 x.kk, .int .i64 x.w, .int .u32 (x.j : Int)]).cell? ⟨w5.heap.size, 5, none⟩ = some (.int .i64 x.w) := (cell_of_row _ _ _ _ _ _ HC6.out).trans rfl
        have hcx6 : ((w5.alloc (.cells #[.int .u8 0, .int .u32 0, .int .u8 0, .int .u8 0, .int .i64 0, .int .i64 0, .int .u32 0] 48)).setRow w5.heap.size #[.int .u8 (x.cl : Int), .int .u32 (x.s : Int), .int .u8 (x.k : Int), .int .u8 (x.t : Int), .int .i64 x.kk, .int .i64 x.w, .int .u32 (x.j : Int)]).cell? ⟨w5.heap.size, 6, none⟩ = some (.int .u32 (x.j : Int)) := (cell_of_row _ _ _ _ _ _ HC6.out).trans rfl
        go_wp2_with fail
        clear hcx0 hcx1 hcx2 hcx3 hcx4 hcx5 hcx6
        refine (rightrequest_any x _).mono ?_
        rintro e w7 ⟨rfl, hb7⟩
        rw [HRT.out]
        have hs7 := hb7.size
        simp at hs7
        have HZ87 := hid ((hb7.block w.heap.size (by simp <;> omega)).trans HZ86.out)
        have HZ107 := hid ((hb7.block (w.heap.size + 1) (by simp <;> omega)).trans HZ106.out)
        have HC7 := hid ((hb7.block w5.heap.size (by simp <;> omega)).trans HC6.out)
        have HW7 := hid (HW6.out.trans (hb7.mono (by simp <;> omega)))
        go_wp2_with (first | (refine load_st rfl 48 (.tmp 14) rfl w5.heap.size rfl #[.int .u8 (x.cl : Int), .int .u32 (x.s : Int), .int .u8 (x.k : Int), .int .u8 (x.t : Int), .int .i64 x.kk, .int .i64 x.w, .int .u32 (x.j : Int)] _ 7 HC7.out Try.underlying48 size_request rfl ?_) | (refine store_st rfl 48 (.tmp 8) (.tmp 58) rfl w.heap.size #[.int .u8 (x.cl : Int), .int .u32 (x.s : Int), .int .u8 (x.k : Int), .int .u8 (x.t : Int), .int .i64 x.kk, .int .i64 x.w, .int .u32 (x.j : Int)] rfl rfl #[.int .u8 0, .int .u32 0, .int .u8 0, .int .u8 0, .int .i64 0, .int .i64 0, .int .u32 0] 7 HZ87.out size_request rfl rfl (by simp [Value.oneCell']) ?_) | fail)
        refine bodyPost_ret (results_cell2 rfl _ _ _ w.heap.size 48 #[.int .u8 (x.cl : Int), .int .u32 (x.s : Int), .int .u8 (x.k : Int), .int .u8 (x.t : Int), .int .i64 x.kk, .int .i64 x.w, .int .u32 (x.j : Int)] (0, 0) _ rfl rfl (setRow_heap w7 w.heap.size _ _ 48 _ HZ87.out) Try.underlying48 size_request) rfl ⟨x, 0, rfl, .inr (.inl ⟨HU.out, ⟨HX.out, HRT.out⟩, Note.Q.is HN.out HR5.out HL5.out, rfl⟩), HX.out, HW7.out.trans (setRow_below _ (Nat.le_refl _))⟩
    · have HS5 := hid hs
      clear hs
      go_wp2_with (first | (refine store_st rfl 48 (.tmp 14) (.tmp 38) rfl w5.heap.size #[.int .u8 (x.cl : Int), .int .u32 (x.s : Int), .int .u8 (x.k : Int), .int .u8 (x.t : Int), .int .i64 x.kk, .int .i64 x.w, .int .u32 (x.j : Int)] rfl rfl #[.int .u8 0, .int .u32 0, .int .u8 0, .int .u8 0, .int .i64 0, .int .i64 0, .int .u32 0] 7 HA.out size_request rfl rfl (by simp [Value.oneCell']) ?_) | fail)
      refine (eyeend_bad _ be v5 s5 _ HF6.out.2.1 HS5.out).mono ?_
      rintro e w' ⟨rfl, rfl⟩
      go_wp2_with (first | (refine load_st rfl 48 (.tmp 10) rfl (w.heap.size + 1) rfl #[.int .u8 0, .int .u32 0, .int .u8 0, .int .u8 0, .int .i64 0, .int .i64 0, .int .u32 0] _ 7 HZ106.out Try.underlying48 size_request rfl ?_) | (refine store_st rfl 48 (.tmp 8) (.tmp 57) rfl w.heap.size #[.int .u8 0, .int .u32 0, .int .u8 0, .int .u8 0, .int .i64 0, .int .i64 0, .int .u32 0] rfl rfl #[.int .u8 0, .int .u32 0, .int .u8 0, .int .u8 0, .int .i64 0, .int .i64 0, .int .u32 0] 7 HZ86.out size_request rfl rfl (by simp [Value.oneCell']) ?_) | fail)
      refine bodyPost_ret (results_cell2 rfl _ _ _ w.heap.size 48 #[.int .u8 0, .int .u32 0, .int .u8 0, .int .u8 0, .int .i64 0, .int .i64 0, .int .u32 0] (0, 0) _ rfl rfl (setRow_heap ((w5.alloc (.cells #[.int .u8 0, .int .u32 0, .int .u8 0, .int .u8 0, .int .i64 0, .int .i64 0, .int .u32 0] 48)).setRow w5.heap.size #[.int .u8 (x.cl : Int), .int .u32 (x.s : Int), .int .u8 (x.k : Int), .int .u8 (x.t : Int), .int .i64 x.kk, .int .i64 x.w, .int .u32 (x.j : Int)]) w.heap.size _ _ 48 _ HZ86.out) Try.underlying48 size_request) rfl ⟨Note.Q.zero, 4, rfl, .inr (.inr ⟨HU.out, fun y hy e => (by have h := Note.Q.found HX.out HN.out HR5.out HL5.out y hy e; exact HS5.out (congrArg Prod.fst h.2)), rfl, rfl⟩), (by unfold Note.Q.wf Note.Q.zero; simp), HW6.out.trans (setRow_below _ (Nat.le_refl _))⟩
  · skip
    go_wp2_with (first | (refine store_st rfl 48 (.tmp 14) (.tmp 38) rfl w5.heap.size #[.int .u8 (x.cl : Int), .int .u32 (x.s : Int), .int .u8 (x.k : Int), .int .u8 (x.t : Int), .int .i64 x.kk, .int .i64 x.w, .int .u32 (x.j : Int)] rfl rfl #[.int .u8 0, .int .u32 0, .int .u8 0, .int .u8 0, .int .i64 0, .int .i64 0, .int .u32 0] 7 HA.out size_request rfl rfl (by simp [Value.oneCell']) ?_) | (refine load_st rfl 48 (.tmp 10) rfl (w.heap.size + 1) rfl #[.int .u8 0, .int .u32 0, .int .u8 0, .int .u8 0, .int .i64 0, .int .i64 0, .int .u32 0] _ 7 HZ106.out Try.underlying48 size_request rfl ?_) | (refine store_st rfl 48 (.tmp 8) (.tmp 57) rfl w.heap.size #[.int .u8 0, .int .u32 0, .int .u8 0, .int .u8 0, .int .i64 0, .int .i64 0, .int .u32 0] rfl rfl #[.int .u8 0, .int .u32 0, .int .u8 0, .int .u8 0, .int .i64 0, .int .i64 0, .int .u32 0] 7 HZ86.out size_request rfl rfl (by simp [Value.oneCell']) ?_) | fail)
    refine bodyPost_ret (results_cell2 rfl _ _ _ w.heap.size 48 #[.int .u8 0, .int .u32 0, .int .u8 0, .int .u8 0, .int .i64 0, .int .i64 0, .int .u32 0] (0, 0) _ rfl rfl (setRow_heap ((w5.alloc (.cells #[.int .u8 0, .int .u32 0, .int .u8 0, .int .u8 0, .int .i64 0, .int .i64 0, .int .u32 0] 48)).setRow w5.heap.size #[.int .u8 (x.cl : Int), .int .u32 (x.s : Int), .int .u8 (x.k : Int), .int .u8 (x.t : Int), .int .i64 x.kk, .int .i64 x.w, .int .u32 (x.j : Int)]) w.heap.size _ _ 48 _ HZ86.out) Try.underlying48 size_request) rfl ⟨Note.Q.zero, 4, rfl, .inr (.inr ⟨HU.out, fun y hy e => (by have h := Note.Q.found HX.out HN.out HR5.out HL5.out y hy e; cases h.2), rfl, rfl⟩), (by unfold Note.Q.wf Note.Q.zero; simp), HW6.out.trans (setRow_below _ (Nat.le_refl _))⟩

set_option maxRecDepth 100000 in
set_option maxHeartbeats 2000000 in
theorem rgrequest_any (pv : Value) (l : List UInt8) (w : World) (hrd : Rd w pv l) (hl : l.length ≤ 100000) :
    Calls Try.prog 49 #[pv, .int .u64 2, .func (.func 50) #[] #[], .func (.func 51) #[] #[]] w fun e w' => ∃ (x : Note.Q) (ec : Int), e = .returned (.tuple #[.agg #[.int .u8 (x.cl : Int), .int .u32 (x.s : Int), .int .u8 (x.k : Int), .int .u8 (x.t : Int), .int .i64 x.kk, .int .i64 x.w, .int .u32 (x.j : Int)], .int .i64 ec]) ∧ Note.Ans Note.Q.ok Note.Q.enc Note.Q.zero l x ec ∧ x.wf ∧ Below w.heap.size w w' := by
  by_cases hu : Knot.uerr l = 0
  · obtain ⟨n0, s0, hn⟩ : ∃ n s, Ink.stNum (some (Knot.utext l)) = (n, s) := ⟨_, _, rfl⟩
    by_cases ht : n0 = 2
    · subst ht
      exact rgrequest_body pv l w hrd hl hu s0 hn
    · exact rgrequest_tag pv l w hrd hl hu n0 s0 hn ht
  · exact rgrequest_err pv l w hrd hl hu

set_option maxRecDepth 100000 in
set_option maxHeartbeats 2000000 in
theorem readrequest_any (pv : Value) (l : List UInt8) (w : World) (hrd : Rd w pv l) (hl : l.length ≤ 100000) :
    Calls Try.prog 20 #[pv] w fun e w' => ∃ (x : Note.Q) (ec : Int), e = .returned (.tuple #[.agg #[.int .u8 (x.cl : Int), .int .u32 (x.s : Int), .int .u8 (x.k : Int), .int .u8 (x.t : Int), .int .i64 x.kk, .int .i64 x.w, .int .u32 (x.j : Int)], .int .i64 ec]) ∧ Note.Ans Note.Q.ok Note.Q.enc Note.Q.zero l x ec ∧ x.wf ∧ Below w.heap.size w w' := by
  have H := hid (rgrequest_any pv l (w.alloc (.cells #[.int .u8 0, .int .u32 0, .int .u8 0, .int .u8 0, .int .i64 0, .int .i64 0, .int .u32 0] 48)) (hrd.alloc _) hl)
  clear hrd
  go_enter Try.func20, Try.ntmps20
  go_wp2_with fail
  refine H.out.mono ?_
  rintro e w1 ⟨x, ec, rfl, hans, hxw, hb1⟩
  have HANS := hid hans
  have HX := hid hxw
  have hs1 := hb1.size
  simp at hs1
  have HZ1 := hid ((hb1.block w.heap.size (by simp)).trans (heap_alloc_new w (.cells #[.int .u8 0, .int .u32 0, .int .u8 0, .int .u8 0, .int .i64 0, .int .i64 0, .int .u32 0] 48)))
  have HW1 := hid (((Below.refl w.heap.size w).alloc (Nat.le_refl _) (.cells #[.int .u8 0, .int .u32 0, .int .u8 0, .int .u8 0, .int .i64 0, .int .i64 0, .int .u32 0] 48)).trans (hb1.mono (by simp)))
  clear hans hxw hb1
  go_wp2_with (first | (refine store_st rfl 48 (.tmp 2) (.tmp 6) rfl w.heap.size #[.int .u8 (x.cl : Int), .int .u32 (x.s : Int), .int .u8 (x.k : Int), .int .u8 (x.t : Int), .int .i64 x.kk, .int .i64 x.w, .int .u32 (x.j : Int)] rfl rfl #[.int .u8 0, .int .u32 0, .int .u8 0, .int .u8 0, .int .i64 0, .int .i64 0, .int .u32 0] 7 HZ1.out size_request rfl rfl (by simp [Value.oneCell']) ?_) | fail)
  exact bodyPost_ret (results_cell2 rfl _ _ _ w.heap.size 48 #[.int .u8 (x.cl : Int), .int .u32 (x.s : Int), .int .u8 (x.k : Int), .int .u8 (x.t : Int), .int .i64 x.kk, .int .i64 x.w, .int .u32 (x.j : Int)] (0, 0) _ rfl rfl (setRow_heap w1 w.heap.size _ _ 48 _ HZ1.out) Try.underlying48 size_request) rfl ⟨x, ec, rfl, HANS.out, HX.out, HW1.out.trans (setRow_below _ (Nat.le_refl _))⟩


theorem size_packet : (Try.prog.info? 38).map (·.size) = some 7 := by kernel_rfl

theorem packet_zero_wf : Note.P.zero.wf := (by unfold Note.P.wf Note.P.zero; simp)

set_option maxRecDepth 100000 in
set_option maxHeartbeats 2000000 in
theorem rgpacket_err (pv : Value) (l : List UInt8) (w : World) (hrd : Rd w pv l) (hl : l.length ≤ 100000) (hu : Knot.uerr l ≠ 0) :
    Calls Try.prog 45 #[pv, .int .u64 4, .func (.func 43) #[] #[], .func (.func 46) #[] #[]] w fun e w' => ∃ (x : Note.P) (bv : Value) (ec : Int), e = .returned (.tuple #[.agg #[.int .u8 (x.n : Int), .int .u32 (x.e : Int), .int .u32 (x.l : Int), .int .u32 (x.s : Int), .int .u32 (x.a : Int), .bool x.p, bv], .int .i64 ec]) ∧ Note.Ans Note.P.ok Note.P.enc Note.P.zero l x ec ∧ x.wf ∧ Own w' w.heap.size bv x.b ∧ Below w.heap.size w w' := by
  obtain ⟨ku, hku⟩ : ∃ ku, ku = Knot.uerr l := ⟨_, rfl⟩
  rw [← hku] at hu
  have hq : ((ku : Int) != 0) = true := by rw [bne_iff_ne]; exact hu
  have HU := hid hu
  have HK := hid hku
  have HRD := hid ((hrd.alloc (.cells #[.int .u8 0, .int .u32 0, .int .u32 0, .int .u32 0, .int .u32 0, .bool false, .slice none 0 0] 38)).alloc (.cells #[.int .u8 0, .int .u32 0, .int .u32 0, .int .u32 0, .int .u32 0, .bool false, .slice none 0 0] 38))
  clear hu hku hrd
  go_enter Try.func45, Try.ntmps45
  go_wp2_with fail
  refine (untie_any pv l _ HRD.out (by omega)).mono ?_
  rintro e w1 ⟨uv, rfl, hou, hb1⟩
  rw [← HK.out]
  have hs1 := hb1.size
  simp at hs1
  have hz8 : w1.heap[w.heap.size]? = some (.cells #[.int .u8 0, .int .u32 0, .int .u32 0, .int .u32 0, .int .u32 0, .bool false, .slice none 0 0] 38 (0, 0)) := (hb1.block _ (by simp <;> omega)).trans (heap_alloc2_old w _ _)
  have hz10 : w1.heap[w.heap.size + 1]? = some (.cells #[.int .u8 0, .int .u32 0, .int .u32 0, .int .u32 0, .int .u32 0, .bool false, .slice none 0 0] 38 (0, 0)) := (hb1.block _ (by simp)).trans (heap_alloc2_new w _ _)
  have HZ8 := hid hz8
  have HZ10 := hid hz10
  have HW1 : Below w.heap.size w w1 := (((Below.refl _ _).alloc (Nat.le_refl _) _).alloc (by simp) _).trans (hb1.mono (by simp; omega))
  clear hz8 hz10 hb1 hou
  go_wp2_with (first | (refine load_st rfl 38 (.tmp 10) rfl (w.heap.size + 1) rfl #[.int .u8 0, .int .u32 0, .int .u32 0, .int .u32 0, .int .u32 0, .bool false, .slice none 0 0] _ 7 HZ10.out Try.underlying38 size_packet rfl ?_) | (refine store_st rfl 38 (.tmp 8) (.tmp 22) rfl w.heap.size #[.int .u8 0, .int .u32 0, .int .u32 0, .int .u32 0, .int .u32 0, .bool false, .slice none 0 0] rfl rfl #[.int .u8 0, .int .u32 0, .int .u32 0, .int .u32 0, .int .u32 0, .bool false, .slice none 0 0] 7 HZ8.out size_packet rfl rfl (by simp [Value.oneCell']) ?_) | fail)
  refine bodyPost_ret (results_cell2 rfl _ _ _ w.heap.size 38 #[.int .u8 0, .int .u32 0, .int .u32 0, .int .u32 0, .int .u32 0, .bool false, .slice none 0 0] (0, 0) _ rfl rfl (setRow_heap w1 w.heap.size _ _ 38 _ HZ8.out) Try.underlying38 size_packet) rfl ⟨Note.P.zero, .slice none 0 0, ku, rfl, .inl ⟨by rw [← HK.out]; exact HU.out, rfl, HK.out⟩, (by unfold Note.P.wf Note.P.zero; simp), Own.nil _ _, HW1.trans (setRow_below _ (Nat.le_refl _))⟩

set_option maxRecDepth 100000 in
set_option maxHeartbeats 2000000 in
theorem rgpacket_tag (pv : Value) (l : List UInt8) (w : World) (hrd : Rd w pv l) (hl : l.length ≤ 100000) (hu : Knot.uerr l = 0) (n0 : Nat) (s0 : Option (List UInt8)) (hn : Ink.stNum (some (Knot.utext l)) = (n0, s0)) (ht : n0 ≠ 4) :
    Calls Try.prog 45 #[pv, .int .u64 4, .func (.func 43) #[] #[], .func (.func 46) #[] #[]] w fun e w' => ∃ (x : Note.P) (bv : Value) (ec : Int), e = .returned (.tuple #[.agg #[.int .u8 (x.n : Int), .int .u32 (x.e : Int), .int .u32 (x.l : Int), .int .u32 (x.s : Int), .int .u32 (x.a : Int), .bool x.p, bv], .int .i64 ec]) ∧ Note.Ans Note.P.ok Note.P.enc Note.P.zero l x ec ∧ x.wf ∧ Own w' w.heap.size bv x.b ∧ Below w.heap.size w w' := by
  have hq : ((n0 : Int) != 4) = true := by rw [bne_iff_ne]; omega
  have HT := hid ht
  clear ht
  have HRD := hid ((hrd.alloc (.cells #[.int .u8 0, .int .u32 0, .int .u32 0, .int .u32 0, .int .u32 0, .bool false, .slice none 0 0] 38)).alloc (.cells #[.int .u8 0, .int .u32 0, .int .u32 0, .int .u32 0, .int .u32 0, .bool false, .slice none 0 0] 38))
  have hul := utext_length l
  have HU := hid hu
  have HN := hid hn
  clear hu hrd hn
  go_enter Try.func45, Try.ntmps45
  go_wp2_with fail
  refine (untie_any pv l _ HRD.out (by omega)).mono ?_
  rintro e w1 ⟨uv, rfl, hou, hb1⟩
  rw [HU.out]
  have hs1 := hb1.size
  simp at hs1
  have hz8 : w1.heap[w.heap.size]? = some (.cells #[.int .u8 0, .int .u32 0, .int .u32 0, .int .u32 0, .int .u32 0, .bool false, .slice none 0 0] 38 (0, 0)) := (hb1.block _ (by simp <;> omega)).trans (heap_alloc2_old w _ _)
  have hz10 : w1.heap[w.heap.size + 1]? = some (.cells #[.int .u8 0, .int .u32 0, .int .u32 0, .int .u32 0, .int .u32 0, .bool false, .slice none 0 0] 38 (0, 0)) := (hb1.block _ (by simp)).trans (heap_alloc2_new w _ _)
  have HW1 : Below w.heap.size w w1 := (((Below.refl _ _).alloc (Nat.le_refl _) _).alloc (by simp) _).trans (hb1.mono (by simp; omega))
  go_wp2_with fail
  refine (read_any uv (Knot.utext l) w1 hou.rd (by omega)).mono ?_
  rintro e w2 ⟨be, ve, rfl, hey, hb2⟩
  have hs2 := hb2.size
  have hbe := hey.lt
  have hbeb := hey.2.2.2
  have hvo := hey.2.2.1
  have h3 := (Below.refl w2.heap.size w2).alloc (Nat.le_refl _) (.cells #[.pointer (some ⟨be, 0, none⟩), .bool false] 86)
  have HF3 := hid (show FldAt (w2.alloc (.cells #[.pointer (some ⟨be, 0, none⟩), .bool false] 86)) w1.heap.size w2.heap.size be ve (some (Knot.utext l), false) from
    ⟨heap_alloc_new w2 _, EyeAt.below hey h3, by omega, by omega, fun e => by have := (hvo _ e).2.2; omega⟩)
  have hz82 := (hb2.block w.heap.size (by omega)).trans hz8
  have hz102 := (hb2.block (w.heap.size + 1) (by omega)).trans hz10
  have HZ8 := hid ((h3.block w.heap.size (by omega)).trans hz82)
  have HZ10 := hid ((h3.block (w.heap.size + 1) (by omega)).trans hz102)
  have HW3 := hid (HW1.trans ((hb2.mono (by omega)).trans (h3.mono (by omega))))
  have hc3 := HF3.out.cell0
  clear hz8 hz10 hz82 hz102 hb1 hou hb2 hvo hey HW1 h3
  go_wp2_with fail
  refine (eyenum_st w1.heap.size be ve (some (Knot.utext l)) _ HF3.out.2.1).mono ?_
  rintro e w4 ⟨rfl, v4, h4, hk4, hv4⟩
  rw [HN.out] at h4 ⊢
  have HF4 := hid (HF3.out.eye h4 hk4 hv4)
  have hs4 := hk4.size
  simp at hs4
  have HZ84 := hid ((hk4.block w.heap.size (by simp <;> omega) (by omega)).trans HZ8.out)
  have HZ104 := hid ((hk4.block (w.heap.size + 1) (by simp <;> omega) (by omega)).trans HZ10.out)
  have HW4 := hid (HW3.out.trans (hk4.below (B := w.heap.size) (by simp <;> omega) (fun i hi => by omega)))
  clear h4 hk4 hv4 hc3 HF3 HZ8 HZ10 HW3
  go_wp2_with (first | (refine load_st rfl 38 (.tmp 10) rfl (w.heap.size + 1) rfl #[.int .u8 0, .int .u32 0, .int .u32 0, .int .u32 0, .int .u32 0, .bool false, .slice none 0 0] _ 7 HZ104.out Try.underlying38 size_packet rfl ?_) | (refine store_st rfl 38 (.tmp 8) (.tmp 35) rfl w.heap.size #[.int .u8 0, .int .u32 0, .int .u32 0, .int .u32 0, .int .u32 0, .bool false, .slice none 0 0] rfl rfl #[.int .u8 0, .int .u32 0, .int .u32 0, .int .u32 0, .int .u32 0, .bool false, .slice none 0 0] 7 HZ84.out size_packet rfl rfl (by simp [Value.oneCell']) ?_) | fail)
  refine bodyPost_ret (results_cell2 rfl _ _ _ w.heap.size 38 #[.int .u8 0, .int .u32 0, .int .u32 0, .int .u32 0, .int .u32 0, .bool false, .slice none 0 0] (0, 0) _ rfl rfl (setRow_heap w4 w.heap.size _ _ 38 _ HZ84.out) Try.underlying38 size_packet) rfl ⟨Note.P.zero, .slice none 0 0, 4, rfl, .inr (.inr ⟨HU.out, Note.P.no_tag HN.out HT.out, rfl, rfl⟩), (by unfold Note.P.wf Note.P.zero; simp), Own.nil _ _, HW4.out.trans (setRow_below _ (Nat.le_refl _))⟩

set_option maxRecDepth 100000 in
set_option maxHeartbeats 4000000 in
theorem rgpacket_body (pv : Value) (l : List UInt8) (w : World) (hrd : Rd w pv l) (hl : l.length ≤ 100000) (hu : Knot.uerr l = 0) (s0 : Option (List UInt8)) (hn : Ink.stNum (some (Knot.utext l)) = (4, s0)) :
    Calls Try.prog 45 #[pv, .int .u64 4, .func (.func 43) #[] #[], .func (.func 46) #[] #[]] w fun e w' => ∃ (x : Note.P) (bv : Value) (ec : Int), e = .returned (.tuple #[.agg #[.int .u8 (x.n : Int), .int .u32 (x.e : Int), .int .u32 (x.l : Int), .int .u32 (x.s : Int), .int .u32 (x.a : Int), .bool x.p, bv], .int .i64 ec]) ∧ Note.Ans Note.P.ok Note.P.enc Note.P.zero l x ec ∧ x.wf ∧ Own w' w.heap.size bv x.b ∧ Below w.heap.size w w' := by
  have HLEN := hid (show ∀ r, s0 = some r → r.length ≤ (Knot.utext l).length from fun r hr => by
    have h1 := Ink.stNum_le (some (Knot.utext l))
    rw [hn, hr] at h1
    simpa using h1)
  have HRD := hid ((hrd.alloc (.cells #[.int .u8 0, .int .u32 0, .int .u32 0, .int .u32 0, .int .u32 0, .bool false, .slice none 0 0] 38)).alloc (.cells #[.int .u8 0, .int .u32 0, .int .u32 0, .int .u32 0, .int .u32 0, .bool false, .slice none 0 0] 38))
  have hul := utext_length l
  have HU := hid hu
  have HN := hid hn
  clear hu hrd hn
  go_enter Try.func45, Try.ntmps45
  go_wp2_with fail
  refine (untie_any pv l _ HRD.out (by omega)).mono ?_
  rintro e w1 ⟨uv, rfl, hou, hb1⟩
  rw [HU.out]
  have hs1 := hb1.size
  simp at hs1
  have hz8 : w1.heap[w.heap.size]? = some (.cells #[.int .u8 0, .int .u32 0, .int .u32 0, .int .u32 0, .int .u32 0, .bool false, .slice none 0 0] 38 (0, 0)) := (hb1.block _ (by simp <;> omega)).trans (heap_alloc2_old w _ _)
  have hz10 : w1.heap[w.heap.size + 1]? = some (.cells #[.int .u8 0, .int .u32 0, .int .u32 0, .int .u32 0, .int .u32 0, .bool false, .slice none 0 0] 38 (0, 0)) := (hb1.block _ (by simp)).trans (heap_alloc2_new w _ _)
  have HW1 : Below w.heap.size w w1 := (((Below.refl _ _).alloc (Nat.le_refl _) _).alloc (by simp) _).trans (hb1.mono (by simp; omega))
  go_wp2_with fail
  refine (read_any uv (Knot.utext l) w1 hou.rd (by omega)).mono ?_
  rintro e w2 ⟨be, ve, rfl, hey, hb2⟩
  have hs2 := hb2.size
  have hbe := hey.lt
  have hbeb := hey.2.2.2
  have hvo := hey.2.2.1
  have h3 := (Below.refl w2.heap.size w2).alloc (Nat.le_refl _) (.cells #[.pointer (some ⟨be, 0, none⟩), .bool false] 86)
  have HF3 := hid (show FldAt (w2.alloc (.cells #[.pointer (some ⟨be, 0, none⟩), .bool false] 86)) w1.heap.size w2.heap.size be ve (some (Knot.utext l), false) from
    ⟨heap_alloc_new w2 _, EyeAt.below hey h3, by omega, by omega, fun e => by have := (hvo _ e).2.2; omega⟩)
  have hz82 := (hb2.block w.heap.size (by omega)).trans hz8
  have hz102 := (hb2.block (w.heap.size + 1) (by omega)).trans hz10
  have HZ8 := hid ((h3.block w.heap.size (by omega)).trans hz82)
  have HZ10 := hid ((h3.block (w.heap.size + 1) (by omega)).trans hz102)
  have HW3 := hid (HW1.trans ((hb2.mono (by omega)).trans (h3.mono (by omega))))
  have hc3 := HF3.out.cell0
  clear hz8 hz10 hz82 hz102 hb1 hou hb2 hvo hey HW1 h3
  go_wp2_with fail
  refine (eyenum_st w1.heap.size be ve (some (Knot.utext l)) _ HF3.out.2.1).mono ?_
  rintro e w4 ⟨rfl, v4, h4, hk4, hv4⟩
  rw [HN.out] at h4 ⊢
  have HF4 := hid (HF3.out.eye h4 hk4 hv4)
  have hs4 := hk4.size
  simp at hs4
  have HZ84 := hid ((hk4.block w.heap.size (by simp <;> omega) (by omega)).trans HZ8.out)
  have HZ104 := hid ((hk4.block (w.heap.size + 1) (by simp <;> omega) (by omega)).trans HZ10.out)
  have HW4 := hid (HW3.out.trans (hk4.below (B := w.heap.size) (by simp <;> omega) (fun i hi => by omega)))
  clear h4 hk4 hv4 hc3 HF3 HZ8 HZ10 HW3
  go_wp2_with fail
  refine (rdpacket_any w4 w1.heap.size w2.heap.size be v4 (s0, false) HF4.out (fun r hr => by have h1 := HLEN.out r hr; omega) (by omega)).mono ?_
  rintro e w5 ⟨x, bv, rfl, hxw, hbo, ⟨v5, st1, ⟨s5, o5⟩, hf5, hr5, hl5⟩, hb5⟩
  obtain ⟨ba, bc, eb, _⟩ := hbo.rd
  subst eb
  have HBO := hid hbo
  clear hbo
  have hs5 := hb5.size
  have HX := hid hxw
  have HR5 := hid hr5
  have HL5 := hid hl5
  have hlt5 := hf5.lt
  have HZ85 := hid ((hb5.block w.heap.size (by omega)).trans HZ84.out)
  have HZ105 := hid ((hb5.block (w.heap.size + 1) (by omega)).trans HZ104.out)
  have HA := hid (heap_alloc_new w5 (.cells #[.int .u8 0, .int .u32 0, .int .u32 0, .int .u32 0, .int .u32 0, .bool false, .slice none 0 0] 38))
  have h6 : Below w5.heap.size w5 ((w5.alloc (.cells #[.int .u8 0, .int .u32 0, .int .u32 0, .int .u32 0, .int .u32 0, .bool false, .slice none 0 0] 38)).setRow w5.heap.size #[.int .u8 (x.n : Int), .int .u32 (x.e : Int), .int .u32 (x.l : Int), .int .u32 (x.s : Int), .int .u32 (x.a : Int), .bool x.p, .slice ba x.b.length bc]) := ((Below.refl _ _).alloc (Nat.le_refl _) _).trans (setRow_below _ (Nat.le_refl _))
  have HF6 := hid (hf5.below h6)
  have HC6 := hid (setRow_heap (w5.alloc (.cells #[.int .u8 0, .int .u32 0, .int .u32 0, .int .u32 0, .int .u32 0, .bool false, .slice none 0 0] 38)) w5.heap.size _ #[.int .u8 (x.n : Int), .int .u32 (x.e : Int), .int .u32 (x.l : Int), .int .u32 (x.s : Int), .int .u32 (x.a : Int), .bool x.p, .slice ba x.b.length bc] 38 _ HA.out)
  have HZ86 := hid ((h6.block w.heap.size (by omega)).trans HZ85.out)
  have HZ106 := hid ((h6.block (w.heap.size + 1) (by omega)).trans HZ105.out)
  have HW6 := hid (HW4.out.trans ((hb5.mono (by omega)).trans (h6.mono (by omega))))
  have hc60 := HF6.out.cell0
  have hc61 := HF6.out.cell1
  have HBO6 := hid (HBO.out.below h6)
  clear hf5 hr5 hl5 hxw h6 hb5
  cases o5
  · by_cases hs : s5 = some []
    · subst hs
      cases hrt : x.right
      · have HRT := hid hrt
        clear hrt
        go_wp2_with (first | (refine store_st rfl 38 (.tmp 14) (.tmp 38) rfl w5.heap.size #[.int .u8 (x.n : Int), .int .u32 (x.e : Int), .int .u32 (x.l : Int), .int .u32 (x.s : Int), .int .u32 (x.a : Int), .bool x.p, .slice ba x.b.length bc] rfl rfl #[.int .u8 0, .int .u32 0, .int .u32 0, .int .u32 0, .int .u32 0, .bool false, .slice none 0 0] 7 HA.out size_packet rfl rfl (by simp [Value.oneCell']) ?_) | fail)
        refine (eyeend_good _ be v5 _ HF6.out.2.1).mono ?_
        rintro e w' ⟨rfl, rfl⟩
        have hcx0 : ((w5.alloc (.cells #[.int .u8 0, .int .u32 0, .int .u32 0, .int .u32 0, .int .u32 0, .bool false, .slice none 0 0] 38)).setRow w5.heap.size #[.int .u8 (x.n : Int), .int .u32 (x.e : Int), .int .u32 (x.l : Int), .int .u32 (x.s : Int), .int .u32 (x.a : Int), .bool x.p, .slice ba x.b.length bc]).cell? ⟨w5.heap.size, 0, none⟩ = some (.int .u8 (x.n : Int)) := (cell_of_row _ _ _ _ _ _ HC6.out).trans rfl
        have hcx1 : ((w5.alloc (.cells #[.int .u8 0, .int .u32 0, .int .u32 0, .int .u32 0, .int .u32 0, .bool false, .slice none 0 0] 38)).setRow w5.heap.size #[.int .u8 (x.n : Int), .int .u32 (x.e : Int), .int .u32 (x.l : Int), .int .u32 (x.s : Int), .int .u32 (x.a : Int), .bool x.p, .slice ba x.b.length bc]).cell? ⟨w5.heap.size, 1, none⟩ = some (.int .u32 (x.e : Int)) := (cell_of_row _ _ _ _ _ _ HC6.out).trans rfl
        have hcx2 : ((w5.alloc (.cells #[.int .u8 0, .int .u32 0, .int .u32 0, .int .u32 0, .int .u32 0, .bool false, .slice none 0 0] 38)).setRow w5.heap.size #[.int .u8 (x.n : Int), .int .u32 (x.e : Int), .int .u32 (x.l : Int), .int .u32 (x.s : Int), .int .u32 (x.a : Int), .bool x.p, .slice ba x.b.length bc]).cell? ⟨w5.heap.size, 2, none⟩ = some (.int .u32 (x.l : Int)) := (cell_of_row _ _ _ _ _ _ HC6.out).trans rfl
        have hcx3 : ((w5.alloc (.cells #[.int .u8 0, .int .u32 0, .int .u32 0, .int .u32 0, .int .u32 0, .bool false, .slice none 0 0] 38)).setRow w5.heap.size #[.int .u8 (x.n : Int), .int .u32 (x.e : Int), .int .u32 (x.l : Int), .int .u32 (x.s : Int), .int .u32 (x.a : Int), .bool x.p, .slice ba x.b.length bc]).cell? ⟨w5.heap.size, 3, none⟩ = some (.int .u32 (x.s : Int)) := (cell_of_row _ _ _ _ _ _ HC6.out).trans rfl
        have hcx4 : ((w5.alloc (.cells #[.int .u8 0, .int .u32 0, .int .u32 0, .int .u32 0, .int .u32 0, .bool false, .slice none 0 0] 38)).setRow w5.heap.size #[.int .u8 (x.n : Int), .int .u32 (x.e : Int), .int .u32 (x.l : Int), .int .u32 (x.s : Int), .int .u32 (x.a : Int), .bool x.p, .slice ba x.b.length bc]).cell? ⟨w5.heap.size, 4, none⟩ = some (.int .u32 (x.a : Int)) := (cell_of_row _ _ _ _ _ _ HC6.out).trans rfl
        have hcx5 : ((w5.alloc (.cells #[.int .u8 0, .int .u32 0, .int .u32 0, .int .u32 0, .int .u32 0, .bool false, .slice none 0 0] 38)).setRow w5.heap.size #[.int .u8 (x.n : Int), .int .u32 (x.e : Int), .int .u32 (x.l : Int), .int .u32 (x.s : Int), .int .u32 (x.a : Int), .bool x.p, .slice ba x.b.length bc]).cell? ⟨w5.heap.size, 5, none⟩ = some (.bool x.p) := (cell_of_row _ _ _ _ _ _ HC6.out).trans rfl
        have hcx6 : ((w5.alloc (.cells #[.int .u8 0, .int .u32 0, .int .u32 0, .int .u32 0, .int .u32 0, .bool false, .slice none 0 0] 38)).setRow w5.heap.size #[.int .u8 (x.n : Int), .int .u32 (x.e : Int), .int .u32 (x.l : Int), .int .u32 (x.s : Int), .int .u32 (x.a : Int), .bool x.p, .slice ba x.b.length bc]).cell? ⟨w5.heap.size, 6, none⟩ = some (.slice ba x.b.length bc) := (cell_of_row _ _ _ _ _ _ HC6.out).trans rfl
        go_wp2_with fail
        clear hcx0 hcx1 hcx2 hcx3 hcx4 hcx5 hcx6
        refine (rightpacket_any x ba bc _).mono ?_
        rintro e w7 ⟨rfl, hb7⟩
        rw [HRT.out]
        have hs7 := hb7.size
        simp at hs7
        have HZ87 := hid ((hb7.block w.heap.size (by simp <;> omega)).trans HZ86.out)
        have HZ107 := hid ((hb7.block (w.heap.size + 1) (by simp <;> omega)).trans HZ106.out)
        have HC7 := hid ((hb7.block w5.heap.size (by simp <;> omega)).trans HC6.out)
        have HW7 := hid (HW6.out.trans (hb7.mono (by simp <;> omega)))
        go_wp2_with (first | (refine load_st rfl 38 (.tmp 10) rfl (w.heap.size + 1) rfl #[.int .u8 0, .int .u32 0, .int .u32 0, .int .u32 0, .int .u32 0, .bool false, .slice none 0 0] _ 7 HZ107.out Try.underlying38 size_packet rfl ?_) | (refine store_st rfl 38 (.tmp 8) (.tmp 57) rfl w.heap.size #[.int .u8 0, .int .u32 0, .int .u32 0, .int .u32 0, .int .u32 0, .bool false, .slice none 0 0] rfl rfl #[.int .u8 0, .int .u32 0, .int .u32 0, .int .u32 0, .int .u32 0, .bool false, .slice none 0 0] 7 HZ87.out size_packet rfl rfl (by simp [Value.oneCell']) ?_) | fail)
        refine bodyPost_ret (results_cell2 rfl _ _ _ w.heap.size 38 #[.int .u8 0, .int .u32 0, .int .u32 0, .int .u32 0, .int .u32 0, .bool false, .slice none 0 0] (0, 0) _ rfl rfl (setRow_heap w7 w.heap.size _ _ 38 _ HZ87.out) Try.underlying38 size_packet) rfl ⟨Note.P.zero, .slice none 0 0, 4, rfl, .inr (.inr ⟨HU.out, fun y hy e => (by have h := Note.P.found HX.out HN.out HR5.out HL5.out y hy e; have h2 := hy.2; rw [← h.1, HRT.out] at h2; cases h2), rfl, rfl⟩), (by unfold Note.P.wf Note.P.zero; simp), Own.nil _ _, HW7.out.trans (setRow_below _ (Nat.le_refl _))⟩
      · have HRT := hid hrt
        clear hrt
        go_wp2_with (first | (refine store_st rfl 38 (.tmp 14) (.tmp 38) rfl w5.heap.size #[.int .u8 (x.n : Int), .int .u32 (x.e : Int), .int .u32 (x.l : Int), .int .u32 (x.s : Int), .int .u32 (x.a : Int), .bool x.p, .slice ba x.b.length bc] rfl rfl #[.int .u8 0, .int .u32 0, .int .u32 0, .int .u32 0, .int .u32 0, .bool false, .slice none 0 0] 7 HA.out size_packet rfl rfl (by simp [Value.oneCell']) ?_) | fail)
        refine (eyeend_good _ be v5 _ HF6.out.2.1).mono ?_
        rintro e w' ⟨rfl, rfl⟩
        have hcx0 : ((w5.alloc (.cells #[.int .u8 0, .int .u32 0, .int .u32 0, .int .u32 0, .int .u32 0, .bool false, .slice none 0 0] 38)).setRow w5.heap.size #[.int .u8 (x.n : Int), .int .u32 (x.e : Int), .int .u32 (x.l : Int), .int .u32 (x.s : Int), .int .u32 (x.a : Int), .bool x.p, .slice ba x.b.length bc]).cell? ⟨w5.heap.size, 0, none⟩ = some (.int .u8 (x.n : Int)) := (cell_of_row _ _ _ _ _ _ HC6.out).trans rfl
        have hcx1 : ((w5.alloc (.cells #[.int .u8 0, .int .u32 0, .int .u32 0, .int .u32 0, .int .u32 0, .bool false, .slice none 0 0] 38)).setRow w5.heap.size #[.int .u8 (x.n : Int), .int .u32 (x.e : Int), .int .u32 (x.l : Int), .int .u32 (x.s : Int), .int .u32 (x.a : Int), .bool x.p, .slice ba x.b.length bc]).cell? ⟨w5.heap.size, 1, none⟩ = some (.int .u32 (x.e : Int)) := (cell_of_row _ _ _ _ _ _ HC6.out).trans rfl
        have hcx2 : ((w5.alloc (.cells #[.int .u8 0, .int .u32 0, .int .u32 0, .int .u32 0, .int .u32 0, .bool false, .slice none 0 0] 38)).setRow w5.heap.size #[.int .u8 (x.n : Int), .int .u32 (x.e : Int), .int .u32 (x.l : Int), .int .u32 (x.s : Int), .int .u32 (x.a : Int), .bool x.p, .slice ba x.b.length bc]).cell? ⟨w5.heap.size, 2, none⟩ = some (.int .u32 (x.l : Int)) := (cell_of_row _ _ _ _ _ _ HC6.out).trans rfl
        have hcx3 : ((w5.alloc (.cells #[.int .u8 0, .int .u32 0, .int .u32 0, .int .u32 0, .int .u32 0, .bool false, .slice none 0 0] 38)).setRow w5.heap.size #[.int .u8 (x.n : Int), .int .u32 (x.e : Int), .int .u32 (x.l : Int), .int .u32 (x.s : Int), .int .u32 (x.a : Int), .bool x.p, .slice ba x.b.length bc]).cell? ⟨w5.heap.size, 3, none⟩ = some (.int .u32 (x.s : Int)) := (cell_of_row _ _ _ _ _ _ HC6.out).trans rfl
        have hcx4 : ((w5.alloc (.cells #[.int .u8 0, .int .u32 0, .int .u32 0, .int .u32 0, .int .u32 0, .bool false, .slice none 0 0] 38)).setRow w5.heap.size #[.int .u8 (x.n : Int), .int .u32 (x.e : Int), .int .u32 (x.l : Int), .int .u32 (x.s : Int), .int .u32 (x.a : Int), .bool x.p, .slice ba x.b.length bc]).cell? ⟨w5.heap.size, 4, none⟩ = some (.int .u32 (x.a : Int)) := (cell_of_row _ _ _ _ _ _ HC6.out).trans rfl
        have hcx5 : ((w5.alloc (.cells #[.int .u8 0, .int .u32 0, .int .u32 0, .int .u32 0, .int .u32 0, .bool false, .slice none 0 0] 38)).setRow w5.heap.size #[.int .u8 (x.n : Int), .int .u32 (x.e : Int), .int .u32 (x.l : Int), .int .u32 (x.s : Int), .int .u32 (x.a : Int), .bool x.p, .slice ba x.b.length bc]).cell? ⟨w5.heap.size, 5, none⟩ = some (.bool x.p) := (cell_of_row _ _ _ _ _ _ HC6.out).trans rfl
        have hcx6 : ((w5.alloc (.cells #[.int .u8 0, .int .u32 0, .int .u32 0, .int .u32 0, .int .u32 0, .bool false, .slice none 0 0] 38)).setRow w5.heap.size #[.int .u8 (x.n : Int), .int .u32 (x.e : Int), .int .u32 (x.l : Int), .int .u32 (x.s : Int), .int .u32 (x.a : Int), .bool x.p, .slice ba x.b.length bc]).cell? ⟨w5.heap.size, 6, none⟩ = some (.slice ba x.b.length bc) := (cell_of_row _ _ _ _ _ _ HC6.out).trans rfl
        go_wp2_with fail
        clear hcx0 hcx1 hcx2 hcx3 hcx4 hcx5 hcx6
        refine (rightpacket_any x ba bc _).mono ?_
        rintro e w7 ⟨rfl, hb7⟩
        rw [HRT.out]
        have hs7 := hb7.size
        simp at hs7
        have HZ87 := hid ((hb7.block w.heap.size (by simp <;> omega)).trans HZ86.out)
        have HZ107 := hid ((hb7.block (w.heap.size + 1) (by simp <;> omega)).trans HZ106.out)
        have HC7 := hid ((hb7.block w5.heap.size (by simp <;> omega)).trans HC6.out)
        have HW7 := hid (HW6.out.trans (hb7.mono (by simp <;> omega)))
        have HB8 := hid (HBO6.out.below hb7)
        go_wp2_with (first | (refine load_st rfl 38 (.tmp 14) rfl w5.heap.size rfl #[.int .u8 (x.n : Int), .int .u32 (x.e : Int), .int .u32 (x.l : Int), .int .u32 (x.s : Int), .int .u32 (x.a : Int), .bool x.p, .slice ba x.b.length bc] _ 7 HC7.out Try.underlying38 size_packet rfl ?_) | (refine store_st rfl 38 (.tmp 8) (.tmp 58) rfl w.heap.size #[.int .u8 (x.n : Int), .int .u32 (x.e : Int), .int .u32 (x.l : Int), .int .u32 (x.s : Int), .int .u32 (x.a : Int), .bool x.p, .slice ba x.b.length bc] rfl rfl #[.int .u8 0, .int .u32 0, .int .u32 0, .int .u32 0, .int .u32 0, .bool false, .slice none 0 0] 7 HZ87.out size_packet rfl rfl (by simp [Value.oneCell']) ?_) | fail)
        have own9 : Own (w7.setRow w.heap.size #[.int .u8 (x.n : Int), .int .u32 (x.e : Int), .int .u32 (x.l : Int), .int .u32 (x.s : Int), .int .u32 (x.a : Int), .bool x.p, .slice ba x.b.length bc]) w.heap.size (.slice ba x.b.length bc) x.b :=
          (HB8.out.keeps (S := fun k => k = w.heap.size) (setRow_keeps w7 w.heap.size #[.int .u8 (x.n : Int), .int .u32 (x.e : Int), .int .u32 (x.l : Int), .int .u32 (x.s : Int), .int .u32 (x.a : Int), .bool x.p, .slice ba x.b.length bc]) (fun k hk e => by have := (HB8.out.lt k hk).1; omega)).base (fun k hk => by have := (HB8.out.lt k hk).1; omega)
        refine bodyPost_ret (results_cell2 rfl _ _ _ w.heap.size 38 #[.int .u8 (x.n : Int), .int .u32 (x.e : Int), .int .u32 (x.l : Int), .int .u32 (x.s : Int), .int .u32 (x.a : Int), .bool x.p, .slice ba x.b.length bc] (0, 0) _ rfl rfl (setRow_heap w7 w.heap.size _ _ 38 _ HZ87.out) Try.underlying38 size_packet) rfl ⟨x, .slice ba x.b.length bc, 0, rfl, .inr (.inl ⟨HU.out, ⟨HX.out, HRT.out⟩, Note.P.is HN.out HR5.out HL5.out, rfl⟩), HX.out, own9, HW7.out.trans (setRow_below _ (Nat.le_refl _))⟩
    · have HS5 := hid hs
      clear hs
      go_wp2_with (first | (refine store_st rfl 38 (.tmp 14) (.tmp 38) rfl w5.heap.size #[.int .u8 (x.n : Int), .int .u32 (x.e : Int), .int .u32 (x.l : Int), .int .u32 (x.s : Int), .int .u32 (x.a : Int), .bool x.p, .slice ba x.b.length bc] rfl rfl #[.int .u8 0, .int .u32 0, .int .u32 0, .int .u32 0, .int .u32 0, .bool false, .slice none 0 0] 7 HA.out size_packet rfl rfl (by simp [Value.oneCell']) ?_) | fail)
      refine (eyeend_bad _ be v5 s5 _ HF6.out.2.1 HS5.out).mono ?_
      rintro e w' ⟨rfl, rfl⟩
      go_wp2_with (first | (refine load_st rfl 38 (.tmp 10) rfl (w.heap.size + 1) rfl #[.int .u8 0, .int .u32 0, .int .u32 0, .int .u32 0, .int .u32 0, .bool false, .slice none 0 0] _ 7 HZ106.out Try.underlying38 size_packet rfl ?_) | (refine store_st rfl 38 (.tmp 8) (.tmp 57) rfl w.heap.size #[.int .u8 0, .int .u32 0, .int .u32 0, .int .u32 0, .int .u32 0, .bool false, .slice none 0 0] rfl rfl #[.int .u8 0, .int .u32 0, .int .u32 0, .int .u32 0, .int .u32 0, .bool false, .slice none 0 0] 7 HZ86.out size_packet rfl rfl (by simp [Value.oneCell']) ?_) | fail)
      refine bodyPost_ret (results_cell2 rfl _ _ _ w.heap.size 38 #[.int .u8 0, .int .u32 0, .int .u32 0, .int .u32 0, .int .u32 0, .bool false, .slice none 0 0] (0, 0) _ rfl rfl (setRow_heap ((w5.alloc (.cells #[.int .u8 0, .int .u32 0, .int .u32 0, .int .u32 0, .int .u32 0, .bool false, .slice none 0 0] 38)).setRow w5.heap.size #[.int .u8 (x.n : Int), .int .u32 (x.e : Int), .int .u32 (x.l : Int), .int .u32 (x.s : Int), .int .u32 (x.a : Int), .bool x.p, .slice ba x.b.length bc]) w.heap.size _ _ 38 _ HZ86.out) Try.underlying38 size_packet) rfl ⟨Note.P.zero, .slice none 0 0, 4, rfl, .inr (.inr ⟨HU.out, fun y hy e => (by have h := Note.P.found HX.out HN.out HR5.out HL5.out y hy e; exact HS5.out (congrArg Prod.fst h.2)), rfl, rfl⟩), (by unfold Note.P.wf Note.P.zero; simp), Own.nil _ _, HW6.out.trans (setRow_below _ (Nat.le_refl _))⟩
  · skip
    go_wp2_with (first | (refine store_st rfl 38 (.tmp 14) (.tmp 38) rfl w5.heap.size #[.int .u8 (x.n : Int), .int .u32 (x.e : Int), .int .u32 (x.l : Int), .int .u32 (x.s : Int), .int .u32 (x.a : Int), .bool x.p, .slice ba x.b.length bc] rfl rfl #[.int .u8 0, .int .u32 0, .int .u32 0, .int .u32 0, .int .u32 0, .bool false, .slice none 0 0] 7 HA.out size_packet rfl rfl (by simp [Value.oneCell']) ?_) | (refine load_st rfl 38 (.tmp 10) rfl (w.heap.size + 1) rfl #[.int .u8 0, .int .u32 0, .int .u32 0, .int .u32 0, .int .u32 0, .bool false, .slice none 0 0] _ 7 HZ106.out Try.underlying38 size_packet rfl ?_) | (refine store_st rfl 38 (.tmp 8) (.tmp 57) rfl w.heap.size #[.int .u8 0, .int .u32 0, .int .u32 0, .int .u32 0, .int .u32 0, .bool false, .slice none 0 0] rfl rfl #[.int .u8 0, .int .u32 0, .int .u32 0, .int .u32 0, .int .u32 0, .bool false, .slice none 0 0] 7 HZ86.out size_packet rfl rfl (by simp [Value.oneCell']) ?_) | fail)
    refine bodyPost_ret (results_cell2 rfl _ _ _ w.heap.size 38 #[.int .u8 0, .int .u32 0, .int .u32 0, .int .u32 0, .int .u32 0, .bool false, .slice none 0 0] (0, 0) _ rfl rfl (setRow_heap ((w5.alloc (.cells #[.int .u8 0, .int .u32 0, .int .u32 0, .int .u32 0, .int .u32 0, .bool false, .slice none 0 0] 38)).setRow w5.heap.size #[.int .u8 (x.n : Int), .int .u32 (x.e : Int), .int .u32 (x.l : Int), .int .u32 (x.s : Int), .int .u32 (x.a : Int), .bool x.p, .slice ba x.b.length bc]) w.heap.size _ _ 38 _ HZ86.out) Try.underlying38 size_packet) rfl ⟨Note.P.zero, .slice none 0 0, 4, rfl, .inr (.inr ⟨HU.out, fun y hy e => (by have h := Note.P.found HX.out HN.out HR5.out HL5.out y hy e; cases h.2), rfl, rfl⟩), (by unfold Note.P.wf Note.P.zero; simp), Own.nil _ _, HW6.out.trans (setRow_below _ (Nat.le_refl _))⟩

set_option maxRecDepth 100000 in
set_option maxHeartbeats 2000000 in
theorem rgpacket_any (pv : Value) (l : List UInt8) (w : World) (hrd : Rd w pv l) (hl : l.length ≤ 100000) :
    Calls Try.prog 45 #[pv, .int .u64 4, .func (.func 43) #[] #[], .func (.func 46) #[] #[]] w fun e w' => ∃ (x : Note.P) (bv : Value) (ec : Int), e = .returned (.tuple #[.agg #[.int .u8 (x.n : Int), .int .u32 (x.e : Int), .int .u32 (x.l : Int), .int .u32 (x.s : Int), .int .u32 (x.a : Int), .bool x.p, bv], .int .i64 ec]) ∧ Note.Ans Note.P.ok Note.P.enc Note.P.zero l x ec ∧ x.wf ∧ Own w' w.heap.size bv x.b ∧ Below w.heap.size w w' := by
  by_cases hu : Knot.uerr l = 0
  · obtain ⟨n0, s0, hn⟩ : ∃ n s, Ink.stNum (some (Knot.utext l)) = (n, s) := ⟨_, _, rfl⟩
    by_cases ht : n0 = 4
    · subst ht
      exact rgpacket_body pv l w hrd hl hu s0 hn
    · exact rgpacket_tag pv l w hrd hl hu n0 s0 hn ht
  · exact rgpacket_err pv l w hrd hl hu

set_option maxRecDepth 100000 in
set_option maxHeartbeats 2000000 in
theorem readpacket_any (pv : Value) (l : List UInt8) (w : World) (hrd : Rd w pv l) (hl : l.length ≤ 100000) :
    Calls Try.prog 18 #[pv] w fun e w' => ∃ (x : Note.P) (bv : Value) (ec : Int), e = .returned (.tuple #[.agg #[.int .u8 (x.n : Int), .int .u32 (x.e : Int), .int .u32 (x.l : Int), .int .u32 (x.s : Int), .int .u32 (x.a : Int), .bool x.p, bv], .int .i64 ec]) ∧ Note.Ans Note.P.ok Note.P.enc Note.P.zero l x ec ∧ x.wf ∧ Own w' w.heap.size bv x.b ∧ Below w.heap.size w w' := by
  have H := hid (rgpacket_any pv l (w.alloc (.cells #[.int .u8 0, .int .u32 0, .int .u32 0, .int .u32 0, .int .u32 0, .bool false, .slice none 0 0] 38)) (hrd.alloc _) hl)
  clear hrd
  go_enter Try.func18, Try.ntmps18
  go_wp2_with fail
  refine H.out.mono ?_
  rintro e w1 ⟨x, bv, ec, rfl, hans, hxw, hbo, hb1⟩
  have HANS := hid hans
  have HX := hid hxw
  have hs1 := hb1.size
  simp at hs1
  have HZ1 := hid ((hb1.block w.heap.size (by simp)).trans (heap_alloc_new w (.cells #[.int .u8 0, .int .u32 0, .int .u32 0, .int .u32 0, .int .u32 0, .bool false, .slice none 0 0] 38)))
  have HW1 := hid (((Below.refl w.heap.size w).alloc (Nat.le_refl _) (.cells #[.int .u8 0, .int .u32 0, .int .u32 0, .int .u32 0, .int .u32 0, .bool false, .slice none 0 0] 38)).trans (hb1.mono (by simp)))
  obtain ⟨ba, bc, eb, _⟩ := hbo.rd
  subst eb
  have HBO := hid hbo
  clear hbo
  clear hans hxw hb1
  go_wp2_with (first | (refine store_st rfl 38 (.tmp 2) (.tmp 6) rfl w.heap.size #[.int .u8 (x.n : Int), .int .u32 (x.e : Int), .int .u32 (x.l : Int), .int .u32 (x.s : Int), .int .u32 (x.a : Int), .bool x.p, .slice ba x.b.length bc] rfl rfl #[.int .u8 0, .int .u32 0, .int .u32 0, .int .u32 0, .int .u32 0, .bool false, .slice none 0 0] 7 HZ1.out size_packet rfl rfl (by simp [Value.oneCell']) ?_) | fail)
  have own9 : Own (w1.setRow w.heap.size #[.int .u8 (x.n : Int), .int .u32 (x.e : Int), .int .u32 (x.l : Int), .int .u32 (x.s : Int), .int .u32 (x.a : Int), .bool x.p, .slice ba x.b.length bc]) w.heap.size (.slice ba x.b.length bc) x.b :=
    (HBO.out.keeps (S := fun k => k = w.heap.size) (setRow_keeps w1 w.heap.size #[.int .u8 (x.n : Int), .int .u32 (x.e : Int), .int .u32 (x.l : Int), .int .u32 (x.s : Int), .int .u32 (x.a : Int), .bool x.p, .slice ba x.b.length bc]) (fun k hk e => by have := (HBO.out.lt k hk).1; simp at this; omega)).base (fun k hk => by have := (HBO.out.lt k hk).1; simp at this; omega)
  exact bodyPost_ret (results_cell2 rfl _ _ _ w.heap.size 38 #[.int .u8 (x.n : Int), .int .u32 (x.e : Int), .int .u32 (x.l : Int), .int .u32 (x.s : Int), .int .u32 (x.a : Int), .bool x.p, .slice ba x.b.length bc] (0, 0) _ rfl rfl (setRow_heap w1 w.heap.size _ _ 38 _ HZ1.out) Try.underlying38 size_packet) rfl ⟨x, .slice ba x.b.length bc, ec, rfl, HANS.out, HX.out, own9, HW1.out.trans (setRow_below _ (Nat.le_refl _))⟩


end Go.Proofs.Ytafpgglebjllbaa
