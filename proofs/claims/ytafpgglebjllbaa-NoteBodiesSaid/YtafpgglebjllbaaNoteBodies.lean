/-
  NoteBodies: all bytes, rightly tied, are a note, a request, a reply or a packet, or none, as the document's own readers tell; nothing is two of them. No condition.
  (The frame behind the walk is the guide's shell, at these parameters.)
-/
import Derived.Test.YtafpgglebjllbaaRows
import Derived.WalkKit
import Derived.Test.YtafpgglebjllbaaNotePk
import Derived.Test.YtafpgglebjllbaaNoteYNP
import Derived.Test.YtafpgglebjllbaaNoteGN
import Derived.Test.YtafpgglebjllbaaAwake4
import Derived.Test.YtafpgglebjllbaaNoteZ
import Derived.Test.YtafpgglebjllbaaNoteO
import Derived.Test.YtafpgglebjllbaaNoteNk
import Derived.Test.YtafpgglebjllbaaNoteRx
import Derived.ProofKit
import Derived.Deep.Cut
import Derived.OpenShut
import Derived.ShutString
import Derived.ChangeOld
import Derived.Below
namespace Go.Proofs.Ytafpgglebjllbaa.noteBodies
open Go.ChangeShapes Go.WideShapes Go.ChangeAt Go.RowKit
open Go.ChangeMaps (open_string shut_string)
set_option linter.unusedVariables false

theorem own : ownKnob Try.prog.godebug = none := by kernel_rfl
theorem laidOut : laidOutB Try.prog = true := by kernel_rfl

theorem enc_tag {tag tag' : Nat} {ns ns' : List Nat} {b b' : Option (List UInt8)} (h : tag < 1000) (h' : tag' < 1000) (e : Note.enc tag ns b = Note.enc tag' ns' b') : tag = tag' := by
  have e1 : Ink.stNum (some (Note.enc tag ns b)) = Ink.stNum (some (Note.enc tag' ns' b')) := by rw [e]
  unfold Note.enc at e1
  rw [Note.nums_cons, Note.nums_cons, List.append_assoc, List.append_assoc, Ink.stNum_back _ _ (by omega), Ink.stNum_back _ _ (by omega)] at e1
  exact congrArg Prod.fst e1

theorem ans_zero {X : Type} {ok : X → Prop} {enc : X → List UInt8} {zero : X} {p : List UInt8} {x : X} {e : Int} (h : Note.Ans ok enc zero p x e) (he : e = 0) : Knot.utext p = enc x := by
  rcases h with ⟨a, _, c⟩ | ⟨_, _, c, _⟩ | ⟨_, _, _, c⟩
  · exact absurd (c.symm.trans he) a
  · exact c
  · omega

/-- How many of these are 0. -/
def cz (l : List Int) : Nat := (l.filter fun z => decide (z = 0)).length
theorem cz_le (l : List Int) : cz l ≤ l.length := List.length_filter_le _ _
theorem cz_take (l : List Int) (k : Nat) (h : k < l.length) : cz (l.take (k + 1)) = cz (l.take k) + if l.getD k 0 = 0 then 1 else 0 := by
  unfold cz
  rw [List.take_succ_eq_append_getElem h, List.filter_append, List.length_append]
  have e : l.getD k 0 = l[k] := by simp [List.getD_eq_getElem?_getD, h]
  rw [e]
  by_cases c : l[k] = 0 <;> simp [c]

theorem four_once {p : List UInt8} {a : Note.N} {b : Note.Q} {c : Note.R} {d : Note.P} {e1 e2 e3 e4 : Int} (h1 : Note.Ans Note.N.ok Note.N.enc Note.N.zero p a e1) (h2 : Note.Ans Note.Q.ok Note.Q.enc Note.Q.zero p b e2)
    (h3 : Note.Ans Note.R.ok Note.R.enc Note.R.zero p c e3) (h4 : Note.Ans Note.P.ok Note.P.enc Note.P.zero p d e4) : cz [e1, e2, e3, e4] ≤ 1 := by
  have q12 : ¬ (e1 = 0 ∧ e2 = 0) := fun h => by have e : a.enc = b.enc := (ans_zero h1 h.1).symm.trans (ans_zero h2 h.2); have := enc_tag (tag := 1) (tag' := 2) (by omega) (by omega) (show Note.enc 1 a.ns (some a.b) = Note.enc 2 b.ns none from e); omega
  have q13 : ¬ (e1 = 0 ∧ e3 = 0) := fun h => by have e : a.enc = c.enc := (ans_zero h1 h.1).symm.trans (ans_zero h3 h.2); have := enc_tag (tag := 1) (tag' := 3) (by omega) (by omega) (show Note.enc 1 a.ns (some a.b) = Note.enc 3 c.ns none from e); omega
  have q14 : ¬ (e1 = 0 ∧ e4 = 0) := fun h => by have e : a.enc = d.enc := (ans_zero h1 h.1).symm.trans (ans_zero h4 h.2); have := enc_tag (tag := 1) (tag' := 4) (by omega) (by omega) (show Note.enc 1 a.ns (some a.b) = Note.enc 4 d.ns (some d.b) from e); omega
  have q23 : ¬ (e2 = 0 ∧ e3 = 0) := fun h => by have e : b.enc = c.enc := (ans_zero h2 h.1).symm.trans (ans_zero h3 h.2); have := enc_tag (tag := 2) (tag' := 3) (by omega) (by omega) (show Note.enc 2 b.ns none = Note.enc 3 c.ns none from e); omega
  have q24 : ¬ (e2 = 0 ∧ e4 = 0) := fun h => by have e : b.enc = d.enc := (ans_zero h2 h.1).symm.trans (ans_zero h4 h.2); have := enc_tag (tag := 2) (tag' := 4) (by omega) (by omega) (show Note.enc 2 b.ns none = Note.enc 4 d.ns (some d.b) from e); omega
  have q34 : ¬ (e3 = 0 ∧ e4 = 0) := fun h => by have e : c.enc = d.enc := (ans_zero h3 h.1).symm.trans (ans_zero h4 h.2); have := enc_tag (tag := 3) (tag' := 4) (by omega) (by omega) (show Note.enc 3 c.ns none = Note.enc 4 d.ns (some d.b) from e); omega
  unfold cz
  by_cases c1 : e1 = 0 <;> by_cases c2 : e2 = 0 <;> by_cases c3 : e3 = 0 <;> by_cases c4 : e4 = 0
  all_goals first | (exfalso; simp_all; done) | simp [c1, c2, c3, c4]

set_option maxRecDepth 100000 in
set_option maxHeartbeats 8000000 in
theorem nbd_some (A : Option Addr) (C : Nat) (K : Nat) (hK : K ≤ 300) (l : List UInt8) (w : World) (hC : C ≤ 9223372036854775807) (hKC : K ≤ C) (hl : K = l.length) (hrd : Rd w (.slice A K C) l) :
    Calls Try.prog 6 #[.slice A K C] w fun e w' => e = .returned (.bool true) ∧ Below w.heap.size w w' := by
  have HRD := hid hrd
  have HLL := hid (show l.length ≤ 300 by omega)
  have HPL := hid (show (Knot.knot l).length ≤ 100000 by rw [Knot.knot_length]; omega)
  skip
  clear hrd hl
  go_enter Try.func6, Try.ntmps6
  go_wp2_with fail
  refine (awake4_any _).mono ?_
  rintro e wa ⟨rfl, hba⟩
  have HBA := hid hba
  clear hba
  go_wp2_with fail
  refine (reftie_any _ l wa (HRD.out.below HBA.out) (by have := HLL.out; omega)).mono ?_
  rintro e u0_ ⟨kv, rfl, hok, hb0⟩
  have HP_u0_ := hid hok.rd
  have HB_u0_ := hid (HBA.out.trans (hb0.mono HBA.out.size))
  clear hok hb0
  have hs0 := HB_u0_.out.size
  go_wp2_with fail
  refine (readnote_any kv (Knot.knot l) u0_ HP_u0_.out HPL.out).mono ?_
  rintro e v1 ⟨x1, bv1, e1, rfl, hans, _, hob, hb⟩
  have HAN1 := hid hans
  have hsv1 := hb.size
  obtain ⟨ba1, bc1, hbv, _⟩ := hob.rd
  obtain ⟨bl1, hbl⟩ : ∃ n, n = x1.b.length := ⟨_, rfl⟩
  rw [← hbl] at hbv
  subst hbv
  have HBL1 := hid hbl
  have HRD1_v1 := hid (show Rd v1 (.slice ba1 bl1 bc1) x1.b from hob.rd)
  clear hob hbl
  have HS1 := hid (heap_alloc_new v1 (.cells #[.int .u8 0, .int .u8 0, .int .u32 0, .int .u32 0, .int .u32 0, .int .u32 0, .int .u32 0, .int .u32 0, .int .u8 0, .int .i64 0, .int .u32 0, .int .u32 0, .slice none 0 0] 25))
  obtain ⟨u1_, hu⟩ : ∃ u, u = (v1.alloc (.cells #[.int .u8 0, .int .u8 0, .int .u32 0, .int .u32 0, .int .u32 0, .int .u32 0, .int .u32 0, .int .u32 0, .int .u8 0, .int .i64 0, .int .u32 0, .int .u32 0, .slice none 0 0] 25)).setRow v1.heap.size #[.int .u8 (x1.k : Int), .int .u8 (x1.n : Int), .int .u32 (x1.e : Int), .int .u32 (x1.l : Int), .int .u32 (x1.t : Int), .int .u32 (x1.g : Int), .int .u32 (x1.j : Int), .int .u32 (x1.v : Int), .int .u8 (x1.r : Int), .int .i64 x1.c, .int .u32 (x1.f : Int), .int .u32 (x1.o : Int), .slice ba1 bl1 bc1] := ⟨_, rfl⟩
  have h12 : Below v1.heap.size v1 u1_ := by rw [hu]; exact ((Below.refl _ _).alloc (Nat.le_refl _) _).trans (setRow_below _ (Nat.le_refl _))
  have HT1_u1_ := hid (show u1_.heap[v1.heap.size]? = some (.cells #[.int .u8 (x1.k : Int), .int .u8 (x1.n : Int), .int .u32 (x1.e : Int), .int .u32 (x1.l : Int), .int .u32 (x1.t : Int), .int .u32 (x1.g : Int), .int .u32 (x1.j : Int), .int .u32 (x1.v : Int), .int .u8 (x1.r : Int), .int .i64 x1.c, .int .u32 (x1.f : Int), .int .u32 (x1.o : Int), .slice ba1 bl1 bc1] 25 (0, 0)) by rw [hu]; exact setRow_heap (v1.alloc (.cells #[.int .u8 0, .int .u8 0, .int .u32 0, .int .u32 0, .int .u32 0, .int .u32 0, .int .u32 0, .int .u32 0, .int .u8 0, .int .i64 0, .int .u32 0, .int .u32 0, .slice none 0 0] 25)) v1.heap.size _ _ 25 _ HS1.out)
  have hsu1 : v1.heap.size + 1 ≤ u1_.heap.size := by rw [hu]; simp
  have HB_u1_ := hid (HB_u0_.out.trans ((hb.mono (by omega)).trans (h12.mono (by omega))))
  have HRD1_u1_ := hid (HRD1_v1.out.below h12)
  have HP_u1_ := hid ((HP_u0_.out.below hb).below h12)
  have HW1 := hid hu
  clear hu h12 hb hans
  go_wp2_with (first | (refine store_st rfl 25 (.tmp 5) (.tmp 38) rfl v1.heap.size #[.int .u8 (x1.k : Int), .int .u8 (x1.n : Int), .int .u32 (x1.e : Int), .int .u32 (x1.l : Int), .int .u32 (x1.t : Int), .int .u32 (x1.g : Int), .int .u32 (x1.j : Int), .int .u32 (x1.v : Int), .int .u8 (x1.r : Int), .int .i64 x1.c, .int .u32 (x1.f : Int), .int .u32 (x1.o : Int), .slice ba1 bl1 bc1] rfl rfl #[.int .u8 0, .int .u8 0, .int .u32 0, .int .u32 0, .int .u32 0, .int .u32 0, .int .u32 0, .int .u32 0, .int .u8 0, .int .i64 0, .int .u32 0, .int .u32 0, .slice none 0 0] 13 HS1.out size_note rfl rfl (by simp [Value.oneCell']) ?_) | fail)
  rw [← HW1.out]
  refine (readrequest_any kv (Knot.knot l) u1_ HP_u1_.out HPL.out).mono ?_
  rintro e v2 ⟨x2, e2, rfl, hans, _, hb⟩
  have HAN2 := hid hans
  have hsv2 := hb.size
  have HS2 := hid (heap_alloc_new v2 (.cells #[.int .u8 0, .int .u32 0, .int .u8 0, .int .u8 0, .int .i64 0, .int .i64 0, .int .u32 0] 48))
  obtain ⟨u2_, hu⟩ : ∃ u, u = (v2.alloc (.cells #[.int .u8 0, .int .u32 0, .int .u8 0, .int .u8 0, .int .i64 0, .int .i64 0, .int .u32 0] 48)).setRow v2.heap.size #[.int .u8 (x2.cl : Int), .int .u32 (x2.s : Int), .int .u8 (x2.k : Int), .int .u8 (x2.t : Int), .int .i64 x2.kk, .int .i64 x2.w, .int .u32 (x2.j : Int)] := ⟨_, rfl⟩
  have h12 : Below v2.heap.size v2 u2_ := by rw [hu]; exact ((Below.refl _ _).alloc (Nat.le_refl _) _).trans (setRow_below _ (Nat.le_refl _))
  have HT2_u2_ := hid (show u2_.heap[v2.heap.size]? = some (.cells #[.int .u8 (x2.cl : Int), .int .u32 (x2.s : Int), .int .u8 (x2.k : Int), .int .u8 (x2.t : Int), .int .i64 x2.kk, .int .i64 x2.w, .int .u32 (x2.j : Int)] 48 (0, 0)) by rw [hu]; exact setRow_heap (v2.alloc (.cells #[.int .u8 0, .int .u32 0, .int .u8 0, .int .u8 0, .int .i64 0, .int .i64 0, .int .u32 0] 48)) v2.heap.size _ _ 48 _ HS2.out)
  have hsu2 : v2.heap.size + 1 ≤ u2_.heap.size := by rw [hu]; simp
  have HB_u2_ := hid (HB_u1_.out.trans ((hb.mono (by omega)).trans (h12.mono (by omega))))
  have HP_u2_ := hid ((HP_u1_.out.below hb).below h12)
  have HW2 := hid hu
  clear hu h12 hb hans
  go_wp2_with (first | (refine store_st rfl 48 (.tmp 7) (.tmp 43) rfl v2.heap.size #[.int .u8 (x2.cl : Int), .int .u32 (x2.s : Int), .int .u8 (x2.k : Int), .int .u8 (x2.t : Int), .int .i64 x2.kk, .int .i64 x2.w, .int .u32 (x2.j : Int)] rfl rfl #[.int .u8 0, .int .u32 0, .int .u8 0, .int .u8 0, .int .i64 0, .int .i64 0, .int .u32 0] 7 HS2.out size_request rfl rfl (by simp [Value.oneCell']) ?_) | fail)
  rw [← HW2.out]
  refine (readreply_any kv (Knot.knot l) u2_ HP_u2_.out HPL.out).mono ?_
  rintro e v3 ⟨x3, e3, rfl, hans, _, hb⟩
  have HAN3 := hid hans
  have hsv3 := hb.size
  have HS3 := hid (heap_alloc_new v3 (.cells #[.int .u8 0, .int .u32 0, .int .i64 0, .int .u32 0, .int .u8 0, .int .i64 0] 54))
  obtain ⟨u3_, hu⟩ : ∃ u, u = (v3.alloc (.cells #[.int .u8 0, .int .u32 0, .int .i64 0, .int .u32 0, .int .u8 0, .int .i64 0] 54)).setRow v3.heap.size #[.int .u8 (x3.cl : Int), .int .u32 (x3.s : Int), .int .i64 x3.e, .int .u32 (x3.j : Int), .int .u8 (x3.st : Int), .int .i64 x3.c] := ⟨_, rfl⟩
  have h12 : Below v3.heap.size v3 u3_ := by rw [hu]; exact ((Below.refl _ _).alloc (Nat.le_refl _) _).trans (setRow_below _ (Nat.le_refl _))
  have HT3_u3_ := hid (show u3_.heap[v3.heap.size]? = some (.cells #[.int .u8 (x3.cl : Int), .int .u32 (x3.s : Int), .int .i64 x3.e, .int .u32 (x3.j : Int), .int .u8 (x3.st : Int), .int .i64 x3.c] 54 (0, 0)) by rw [hu]; exact setRow_heap (v3.alloc (.cells #[.int .u8 0, .int .u32 0, .int .i64 0, .int .u32 0, .int .u8 0, .int .i64 0] 54)) v3.heap.size _ _ 54 _ HS3.out)
  have hsu3 : v3.heap.size + 1 ≤ u3_.heap.size := by rw [hu]; simp
  have HB_u3_ := hid (HB_u2_.out.trans ((hb.mono (by omega)).trans (h12.mono (by omega))))
  have HP_u3_ := hid ((HP_u2_.out.below hb).below h12)
  have HW3 := hid hu
  clear hu h12 hb hans
  go_wp2_with (first | (refine store_st rfl 54 (.tmp 9) (.tmp 48) rfl v3.heap.size #[.int .u8 (x3.cl : Int), .int .u32 (x3.s : Int), .int .i64 x3.e, .int .u32 (x3.j : Int), .int .u8 (x3.st : Int), .int .i64 x3.c] rfl rfl #[.int .u8 0, .int .u32 0, .int .i64 0, .int .u32 0, .int .u8 0, .int .i64 0] 6 HS3.out size_reply rfl rfl (by simp [Value.oneCell']) ?_) | fail)
  rw [← HW3.out]
  refine (readpacket_any kv (Knot.knot l) u3_ HP_u3_.out HPL.out).mono ?_
  rintro e v4 ⟨x4, bv4, e4, rfl, hans, _, hob, hb⟩
  have HAN4 := hid hans
  have hsv4 := hb.size
  obtain ⟨ba4, bc4, hbv, _⟩ := hob.rd
  obtain ⟨bl4, hbl⟩ : ∃ n, n = x4.b.length := ⟨_, rfl⟩
  rw [← hbl] at hbv
  subst hbv
  have HBL4 := hid hbl
  have HRD4_v4 := hid (show Rd v4 (.slice ba4 bl4 bc4) x4.b from hob.rd)
  clear hob hbl
  have HS4 := hid (heap_alloc_new v4 (.cells #[.int .u8 0, .int .u32 0, .int .u32 0, .int .u32 0, .int .u32 0, .bool false, .slice none 0 0] 38))
  obtain ⟨u4_, hu⟩ : ∃ u, u = (v4.alloc (.cells #[.int .u8 0, .int .u32 0, .int .u32 0, .int .u32 0, .int .u32 0, .bool false, .slice none 0 0] 38)).setRow v4.heap.size #[.int .u8 (x4.n : Int), .int .u32 (x4.e : Int), .int .u32 (x4.l : Int), .int .u32 (x4.s : Int), .int .u32 (x4.a : Int), .bool x4.p, .slice ba4 bl4 bc4] := ⟨_, rfl⟩
  have h12 : Below v4.heap.size v4 u4_ := by rw [hu]; exact ((Below.refl _ _).alloc (Nat.le_refl _) _).trans (setRow_below _ (Nat.le_refl _))
  have HT4_u4_ := hid (show u4_.heap[v4.heap.size]? = some (.cells #[.int .u8 (x4.n : Int), .int .u32 (x4.e : Int), .int .u32 (x4.l : Int), .int .u32 (x4.s : Int), .int .u32 (x4.a : Int), .bool x4.p, .slice ba4 bl4 bc4] 38 (0, 0)) by rw [hu]; exact setRow_heap (v4.alloc (.cells #[.int .u8 0, .int .u32 0, .int .u32 0, .int .u32 0, .int .u32 0, .bool false, .slice none 0 0] 38)) v4.heap.size _ _ 38 _ HS4.out)
  have hsu4 : v4.heap.size + 1 ≤ u4_.heap.size := by rw [hu]; simp
  have HB_u4_ := hid (HB_u3_.out.trans ((hb.mono (by omega)).trans (h12.mono (by omega))))
  have HRD4_u4_ := hid (HRD4_v4.out.below h12)
  have HP_u4_ := hid ((HP_u3_.out.below hb).below h12)
  have HW4 := hid hu
  clear hu h12 hb hans
  go_wp2_with (first | (refine store_st rfl 38 (.tmp 11) (.tmp 53) rfl v4.heap.size #[.int .u8 (x4.n : Int), .int .u32 (x4.e : Int), .int .u32 (x4.l : Int), .int .u32 (x4.s : Int), .int .u32 (x4.a : Int), .bool x4.p, .slice ba4 bl4 bc4] rfl rfl #[.int .u8 0, .int .u32 0, .int .u32 0, .int .u32 0, .int .u32 0, .bool false, .slice none 0 0] 7 HS4.out size_packet rfl rfl (by simp [Value.oneCell']) ?_) | fail)
  rw [← HW4.out]
  refine (refnote_read kv (Knot.knot l) u4_ HP_u4_.out HPL.out).mono ?_
  rintro e v5 ⟨x5, bv5, e5, rfl, hans, _, hob, hb⟩
  have HAN5 := hid hans
  have hsv5 := hb.size
  obtain ⟨ba5, bc5, hbv, _⟩ := hob.rd
  obtain ⟨bl5, hbl⟩ : ∃ n, n = x5.b.length := ⟨_, rfl⟩
  rw [← hbl] at hbv
  subst hbv
  have HBL5 := hid hbl
  have HRD5_v5 := hid (show Rd v5 (.slice ba5 bl5 bc5) x5.b from hob.rd)
  clear hob hbl
  have HS5 := hid (heap_alloc_new v5 (.cells #[.int .u8 0, .int .u8 0, .int .u32 0, .int .u32 0, .int .u32 0, .int .u32 0, .int .u32 0, .int .u32 0, .int .u8 0, .int .i64 0, .int .u32 0, .int .u32 0, .slice none 0 0] 25))
  obtain ⟨u5_, hu⟩ : ∃ u, u = (v5.alloc (.cells #[.int .u8 0, .int .u8 0, .int .u32 0, .int .u32 0, .int .u32 0, .int .u32 0, .int .u32 0, .int .u32 0, .int .u8 0, .int .i64 0, .int .u32 0, .int .u32 0, .slice none 0 0] 25)).setRow v5.heap.size #[.int .u8 (x5.k : Int), .int .u8 (x5.n : Int), .int .u32 (x5.e : Int), .int .u32 (x5.l : Int), .int .u32 (x5.t : Int), .int .u32 (x5.g : Int), .int .u32 (x5.j : Int), .int .u32 (x5.v : Int), .int .u8 (x5.r : Int), .int .i64 x5.c, .int .u32 (x5.f : Int), .int .u32 (x5.o : Int), .slice ba5 bl5 bc5] := ⟨_, rfl⟩
  have h12 : Below v5.heap.size v5 u5_ := by rw [hu]; exact ((Below.refl _ _).alloc (Nat.le_refl _) _).trans (setRow_below _ (Nat.le_refl _))
  have HT5_u5_ := hid (show u5_.heap[v5.heap.size]? = some (.cells #[.int .u8 (x5.k : Int), .int .u8 (x5.n : Int), .int .u32 (x5.e : Int), .int .u32 (x5.l : Int), .int .u32 (x5.t : Int), .int .u32 (x5.g : Int), .int .u32 (x5.j : Int), .int .u32 (x5.v : Int), .int .u8 (x5.r : Int), .int .i64 x5.c, .int .u32 (x5.f : Int), .int .u32 (x5.o : Int), .slice ba5 bl5 bc5] 25 (0, 0)) by rw [hu]; exact setRow_heap (v5.alloc (.cells #[.int .u8 0, .int .u8 0, .int .u32 0, .int .u32 0, .int .u32 0, .int .u32 0, .int .u32 0, .int .u32 0, .int .u8 0, .int .i64 0, .int .u32 0, .int .u32 0, .slice none 0 0] 25)) v5.heap.size _ _ 25 _ HS5.out)
  have hsu5 : v5.heap.size + 1 ≤ u5_.heap.size := by rw [hu]; simp
  have HB_u5_ := hid (HB_u4_.out.trans ((hb.mono (by omega)).trans (h12.mono (by omega))))
  have HRD5_u5_ := hid (HRD5_v5.out.below h12)
  have HP_u5_ := hid ((HP_u4_.out.below hb).below h12)
  obtain ⟨q1, q2⟩ := Note.Ans.unique Note.N.inj hans HAN1.out
  have HW5 := hid hu
  clear hu h12 hb hans
  have HQ1 := hid q2
  clear q1 q2
  go_wp2_with (first | (refine store_st rfl 25 (.tmp 13) (.tmp 58) rfl v5.heap.size #[.int .u8 (x5.k : Int), .int .u8 (x5.n : Int), .int .u32 (x5.e : Int), .int .u32 (x5.l : Int), .int .u32 (x5.t : Int), .int .u32 (x5.g : Int), .int .u32 (x5.j : Int), .int .u32 (x5.v : Int), .int .u8 (x5.r : Int), .int .i64 x5.c, .int .u32 (x5.f : Int), .int .u32 (x5.o : Int), .slice ba5 bl5 bc5] rfl rfl #[.int .u8 0, .int .u8 0, .int .u32 0, .int .u32 0, .int .u32 0, .int .u32 0, .int .u32 0, .int .u32 0, .int .u8 0, .int .i64 0, .int .u32 0, .int .u32 0, .slice none 0 0] 13 HS5.out size_note rfl rfl (by simp [Value.oneCell']) ?_) | fail)
  rw [← HW5.out]
  refine (refrequest_read kv (Knot.knot l) u5_ HP_u5_.out HPL.out).mono ?_
  rintro e v6 ⟨x6, e6, rfl, hans, _, hb⟩
  have HAN6 := hid hans
  have hsv6 := hb.size
  have HS6 := hid (heap_alloc_new v6 (.cells #[.int .u8 0, .int .u32 0, .int .u8 0, .int .u8 0, .int .i64 0, .int .i64 0, .int .u32 0] 48))
  obtain ⟨u6_, hu⟩ : ∃ u, u = (v6.alloc (.cells #[.int .u8 0, .int .u32 0, .int .u8 0, .int .u8 0, .int .i64 0, .int .i64 0, .int .u32 0] 48)).setRow v6.heap.size #[.int .u8 (x6.cl : Int), .int .u32 (x6.s : Int), .int .u8 (x6.k : Int), .int .u8 (x6.t : Int), .int .i64 x6.kk, .int .i64 x6.w, .int .u32 (x6.j : Int)] := ⟨_, rfl⟩
  have h12 : Below v6.heap.size v6 u6_ := by rw [hu]; exact ((Below.refl _ _).alloc (Nat.le_refl _) _).trans (setRow_below _ (Nat.le_refl _))
  have HT6_u6_ := hid (show u6_.heap[v6.heap.size]? = some (.cells #[.int .u8 (x6.cl : Int), .int .u32 (x6.s : Int), .int .u8 (x6.k : Int), .int .u8 (x6.t : Int), .int .i64 x6.kk, .int .i64 x6.w, .int .u32 (x6.j : Int)] 48 (0, 0)) by rw [hu]; exact setRow_heap (v6.alloc (.cells #[.int .u8 0, .int .u32 0, .int .u8 0, .int .u8 0, .int .i64 0, .int .i64 0, .int .u32 0] 48)) v6.heap.size _ _ 48 _ HS6.out)
  have hsu6 : v6.heap.size + 1 ≤ u6_.heap.size := by rw [hu]; simp
  have HB_u6_ := hid (HB_u5_.out.trans ((hb.mono (by omega)).trans (h12.mono (by omega))))
  have HP_u6_ := hid ((HP_u5_.out.below hb).below h12)
  obtain ⟨q1, q2⟩ := Note.Ans.unique Note.Q.inj hans HAN2.out
  have HW6 := hid hu
  clear hu h12 hb hans
  have HQ2 := hid q2
  clear q1 q2
  go_wp2_with (first | (refine store_st rfl 48 (.tmp 15) (.tmp 63) rfl v6.heap.size #[.int .u8 (x6.cl : Int), .int .u32 (x6.s : Int), .int .u8 (x6.k : Int), .int .u8 (x6.t : Int), .int .i64 x6.kk, .int .i64 x6.w, .int .u32 (x6.j : Int)] rfl rfl #[.int .u8 0, .int .u32 0, .int .u8 0, .int .u8 0, .int .i64 0, .int .i64 0, .int .u32 0] 7 HS6.out size_request rfl rfl (by simp [Value.oneCell']) ?_) | fail)
  rw [← HW6.out]
  refine (refreply_read kv (Knot.knot l) u6_ HP_u6_.out HPL.out).mono ?_
  rintro e v7 ⟨x7, e7, rfl, hans, _, hb⟩
  have HAN7 := hid hans
  have hsv7 := hb.size
  have HS7 := hid (heap_alloc_new v7 (.cells #[.int .u8 0, .int .u32 0, .int .i64 0, .int .u32 0, .int .u8 0, .int .i64 0] 54))
  obtain ⟨u7_, hu⟩ : ∃ u, u = (v7.alloc (.cells #[.int .u8 0, .int .u32 0, .int .i64 0, .int .u32 0, .int .u8 0, .int .i64 0] 54)).setRow v7.heap.size #[.int .u8 (x7.cl : Int), .int .u32 (x7.s : Int), .int .i64 x7.e, .int .u32 (x7.j : Int), .int .u8 (x7.st : Int), .int .i64 x7.c] := ⟨_, rfl⟩
  have h12 : Below v7.heap.size v7 u7_ := by rw [hu]; exact ((Below.refl _ _).alloc (Nat.le_refl _) _).trans (setRow_below _ (Nat.le_refl _))
  have HT7_u7_ := hid (show u7_.heap[v7.heap.size]? = some (.cells #[.int .u8 (x7.cl : Int), .int .u32 (x7.s : Int), .int .i64 x7.e, .int .u32 (x7.j : Int), .int .u8 (x7.st : Int), .int .i64 x7.c] 54 (0, 0)) by rw [hu]; exact setRow_heap (v7.alloc (.cells #[.int .u8 0, .int .u32 0, .int .i64 0, .int .u32 0, .int .u8 0, .int .i64 0] 54)) v7.heap.size _ _ 54 _ HS7.out)
  have hsu7 : v7.heap.size + 1 ≤ u7_.heap.size := by rw [hu]; simp
  have HB_u7_ := hid (HB_u6_.out.trans ((hb.mono (by omega)).trans (h12.mono (by omega))))
  have HP_u7_ := hid ((HP_u6_.out.below hb).below h12)
  obtain ⟨q1, q2⟩ := Note.Ans.unique Note.R.inj hans HAN3.out
  have HW7 := hid hu
  clear hu h12 hb hans
  have HQ3 := hid q2
  clear q1 q2
  go_wp2_with (first | (refine store_st rfl 54 (.tmp 17) (.tmp 68) rfl v7.heap.size #[.int .u8 (x7.cl : Int), .int .u32 (x7.s : Int), .int .i64 x7.e, .int .u32 (x7.j : Int), .int .u8 (x7.st : Int), .int .i64 x7.c] rfl rfl #[.int .u8 0, .int .u32 0, .int .i64 0, .int .u32 0, .int .u8 0, .int .i64 0] 6 HS7.out size_reply rfl rfl (by simp [Value.oneCell']) ?_) | fail)
  rw [← HW7.out]
  refine (refpacket_read kv (Knot.knot l) u7_ HP_u7_.out HPL.out).mono ?_
  rintro e v8 ⟨x8, bv8, e8, rfl, hans, _, hob, hb⟩
  have HAN8 := hid hans
  have hsv8 := hb.size
  obtain ⟨ba8, bc8, hbv, _⟩ := hob.rd
  obtain ⟨bl8, hbl⟩ : ∃ n, n = x8.b.length := ⟨_, rfl⟩
  rw [← hbl] at hbv
  subst hbv
  have HBL8 := hid hbl
  have HRD8_v8 := hid (show Rd v8 (.slice ba8 bl8 bc8) x8.b from hob.rd)
  clear hob hbl
  have HS8 := hid (heap_alloc_new v8 (.cells #[.int .u8 0, .int .u32 0, .int .u32 0, .int .u32 0, .int .u32 0, .bool false, .slice none 0 0] 38))
  obtain ⟨u8_, hu⟩ : ∃ u, u = (v8.alloc (.cells #[.int .u8 0, .int .u32 0, .int .u32 0, .int .u32 0, .int .u32 0, .bool false, .slice none 0 0] 38)).setRow v8.heap.size #[.int .u8 (x8.n : Int), .int .u32 (x8.e : Int), .int .u32 (x8.l : Int), .int .u32 (x8.s : Int), .int .u32 (x8.a : Int), .bool x8.p, .slice ba8 bl8 bc8] := ⟨_, rfl⟩
  have h12 : Below v8.heap.size v8 u8_ := by rw [hu]; exact ((Below.refl _ _).alloc (Nat.le_refl _) _).trans (setRow_below _ (Nat.le_refl _))
  have HT8_u8_ := hid (show u8_.heap[v8.heap.size]? = some (.cells #[.int .u8 (x8.n : Int), .int .u32 (x8.e : Int), .int .u32 (x8.l : Int), .int .u32 (x8.s : Int), .int .u32 (x8.a : Int), .bool x8.p, .slice ba8 bl8 bc8] 38 (0, 0)) by rw [hu]; exact setRow_heap (v8.alloc (.cells #[.int .u8 0, .int .u32 0, .int .u32 0, .int .u32 0, .int .u32 0, .bool false, .slice none 0 0] 38)) v8.heap.size _ _ 38 _ HS8.out)
  have hsu8 : v8.heap.size + 1 ≤ u8_.heap.size := by rw [hu]; simp
  have HB_u8_ := hid (HB_u7_.out.trans ((hb.mono (by omega)).trans (h12.mono (by omega))))
  have HRD8_u8_ := hid (HRD8_v8.out.below h12)
  have HP_u8_ := hid ((HP_u7_.out.below hb).below h12)
  obtain ⟨q1, q2⟩ := Note.Ans.unique Note.P.inj hans HAN4.out
  have HW8 := hid hu
  clear hu h12 hb hans
  have HQ4 := hid q2
  clear q1 q2
  have HCZ := hid (four_once HAN1.out HAN2.out HAN3.out HAN4.out)
  have r1 := HQ1.out
  have r2 := HQ2.out
  have r3 := HQ3.out
  have r4 := HQ4.out
  subst r1 r2 r3 r4
  go_upto_region 13 with (first | (refine store_st rfl 38 (.tmp 19) (.tmp 73) rfl v8.heap.size #[.int .u8 (x8.n : Int), .int .u32 (x8.e : Int), .int .u32 (x8.l : Int), .int .u32 (x8.s : Int), .int .u32 (x8.a : Int), .bool x8.p, .slice ba8 bl8 bc8] rfl rfl #[.int .u8 0, .int .u32 0, .int .u32 0, .int .u32 0, .int .u32 0, .bool false, .slice none 0 0] 7 HS8.out size_packet rfl rfl (by simp [Value.oneCell']) ?_) | fail)
  rw [← HW8.out]
  obtain ⟨wz, hwz⟩ : ∃ wz, wz = u8_.alloc (.cells #[.int .i64 e5, .int .i64 e6, .int .i64 e7, .int .i64 e8] 27) := ⟨_, rfl⟩
  have HZ := hid (show wz.heap[u8_.heap.size]? = some (.cells (([e5, e6, e7, e8] : List Int).map fun (z : Int) => Value.int .i64 z).toArray 27 (0, 0)) by rw [hwz]; exact heap_alloc_new u8_ _)
  have HBZ := hid (show Below w.heap.size w wz by rw [hwz]; exact HB_u8_.out.alloc (by omega) _)
  have HWZ := hid hwz
  clear hwz
  obtain ⟨es, hes⟩ : ∃ es, es = [e5, e6, e7, e8] := ⟨_, rfl⟩
  rw [← hes] at HZ HCZ
  have HEL := hid (show es.length = 4 by rw [hes]; rfl)
  clear hes
  go_upto_region 14 with (fail)
  rw [← HWZ.out]
  go_loop [21, 81] (fun c i => ∃ k : Nat, k ≤ 4 ∧ i = .int .i64 k ∧ c = .int .i64 (cz (es.take k) : Int)) (fun _ i => 4 - (intOf i).toNat)
  case atStart => exact ⟨0, by omega, rfl, rfl⟩
  case round =>
    obtain ⟨k, hk, rfl, rfl⟩ := hrel
    by_cases hlt : k < 4
    · have HT := hid (cz_take es k (by rw [HEL.out]; exact hlt))
      have hcz := cz_le (es.take k)
      have hcl : (es.take k).length ≤ 4 := by rw [List.length_take, HEL.out]; omega
      obtain ⟨z, hz⟩ : ∃ z, z = es.getD k 0 := ⟨_, rfl⟩
      have hc : wz.cell? ⟨u8_.heap.size, k, none⟩ = some (.int .i64 z) := by
        rw [cell_of_row _ _ _ _ _ _ HZ.out, hz]
        simp [List.getD_eq_getElem?_getD, show k < es.length by rw [HEL.out]; exact hlt]
      rw [← hz] at HT
      clear hz
      obtain ⟨c, hcc⟩ : ∃ c, c = cz (es.take k) := ⟨_, rfl⟩
      rw [← hcc] at HT hcz ⊢
      clear hcc
      by_cases h0 : z = 0
      · have hb : (z == 0) = true := by rw [beq_iff_eq]; exact h0
        have H0 := hid h0
        clear h0
        go_wp2
        go_round
        case rel => exact ⟨k + 1, hlt, by go_num, by rw [HT.out, if_pos H0.out]; go_num⟩
        case measure => simp [intOf]; omega
      · have hb : (z == 0) = false := by rw [beq_eq_false_iff_ne]; exact h0
        have H0 := hid h0
        clear h0
        go_wp2
        go_round
        case rel => exact ⟨k + 1, hlt, by go_num, by rw [HT.out, if_neg H0.out]; rfl⟩
        case measure => simp [intOf]; omega
    · obtain rfl : k = 4 := by omega
      have hall : es.take 4 = es := List.take_of_length_le (by rw [HEL.out]; omega)
      rw [hall]
      obtain ⟨c, hcc⟩ : ∃ c, c = cz es := ⟨_, rfl⟩
      have hc1 : (c : Int) ≤ 1 := by rw [hcc]; have := HCZ.out; omega
      rw [← hcc]
      clear hcc hall
      go_wp2
      go_ret
      exact ⟨rfl, HBZ.out⟩

set_option maxRecDepth 100000 in
set_option maxHeartbeats 8000000 in
theorem nbd_many (A : Option Addr) (C : Nat) (L0 : Nat) (hn : 300 < L0) (l : List UInt8) (w : World) (hC : C ≤ 9223372036854775807) (hKC : L0 ≤ C) (hl : 300 = l.length) (hrd : Rd w (.slice A 300 C) l) :
    Calls Try.prog 6 #[.slice A L0 C] w fun e w' => e = .returned (.bool true) ∧ Below w.heap.size w w' := by
  have HRD := hid hrd
  have HLL := hid (show l.length ≤ 300 by omega)
  have HPL := hid (show (Knot.knot l).length ≤ 100000 by rw [Knot.knot_length]; omega)
  have hn1 : (300 : Int) < (L0 : Int) := by omega
  clear hrd hl
  go_enter Try.func6, Try.ntmps6
  go_wp2_with fail
  refine (awake4_any _).mono ?_
  rintro e wa ⟨rfl, hba⟩
  have HBA := hid hba
  clear hba
  go_wp2_with fail
  refine (reftie_any _ l wa (HRD.out.below HBA.out) (by have := HLL.out; omega)).mono ?_
  rintro e u0_ ⟨kv, rfl, hok, hb0⟩
  have HP_u0_ := hid hok.rd
  have HB_u0_ := hid (HBA.out.trans (hb0.mono HBA.out.size))
  clear hok hb0
  have hs0 := HB_u0_.out.size
  go_wp2_with fail
  refine (readnote_any kv (Knot.knot l) u0_ HP_u0_.out HPL.out).mono ?_
  rintro e v1 ⟨x1, bv1, e1, rfl, hans, _, hob, hb⟩
  have HAN1 := hid hans
  have hsv1 := hb.size
  obtain ⟨ba1, bc1, hbv, _⟩ := hob.rd
  obtain ⟨bl1, hbl⟩ : ∃ n, n = x1.b.length := ⟨_, rfl⟩
  rw [← hbl] at hbv
  subst hbv
  have HBL1 := hid hbl
  have HRD1_v1 := hid (show Rd v1 (.slice ba1 bl1 bc1) x1.b from hob.rd)
  clear hob hbl
  have HS1 := hid (heap_alloc_new v1 (.cells #[.int .u8 0, .int .u8 0, .int .u32 0, .int .u32 0, .int .u32 0, .int .u32 0, .int .u32 0, .int .u32 0, .int .u8 0, .int .i64 0, .int .u32 0, .int .u32 0, .slice none 0 0] 25))
  obtain ⟨u1_, hu⟩ : ∃ u, u = (v1.alloc (.cells #[.int .u8 0, .int .u8 0, .int .u32 0, .int .u32 0, .int .u32 0, .int .u32 0, .int .u32 0, .int .u32 0, .int .u8 0, .int .i64 0, .int .u32 0, .int .u32 0, .slice none 0 0] 25)).setRow v1.heap.size #[.int .u8 (x1.k : Int), .int .u8 (x1.n : Int), .int .u32 (x1.e : Int), .int .u32 (x1.l : Int), .int .u32 (x1.t : Int), .int .u32 (x1.g : Int), .int .u32 (x1.j : Int), .int .u32 (x1.v : Int), .int .u8 (x1.r : Int), .int .i64 x1.c, .int .u32 (x1.f : Int), .int .u32 (x1.o : Int), .slice ba1 bl1 bc1] := ⟨_, rfl⟩
  have h12 : Below v1.heap.size v1 u1_ := by rw [hu]; exact ((Below.refl _ _).alloc (Nat.le_refl _) _).trans (setRow_below _ (Nat.le_refl _))
  have HT1_u1_ := hid (show u1_.heap[v1.heap.size]? = some (.cells #[.int .u8 (x1.k : Int), .int .u8 (x1.n : Int), .int .u32 (x1.e : Int), .int .u32 (x1.l : Int), .int .u32 (x1.t : Int), .int .u32 (x1.g : Int), .int .u32 (x1.j : Int), .int .u32 (x1.v : Int), .int .u8 (x1.r : Int), .int .i64 x1.c, .int .u32 (x1.f : Int), .int .u32 (x1.o : Int), .slice ba1 bl1 bc1] 25 (0, 0)) by rw [hu]; exact setRow_heap (v1.alloc (.cells #[.int .u8 0, .int .u8 0, .int .u32 0, .int .u32 0, .int .u32 0, .int .u32 0, .int .u32 0, .int .u32 0, .int .u8 0, .int .i64 0, .int .u32 0, .int .u32 0, .slice none 0 0] 25)) v1.heap.size _ _ 25 _ HS1.out)
  have hsu1 : v1.heap.size + 1 ≤ u1_.heap.size := by rw [hu]; simp
  have HB_u1_ := hid (HB_u0_.out.trans ((hb.mono (by omega)).trans (h12.mono (by omega))))
  have HRD1_u1_ := hid (HRD1_v1.out.below h12)
  have HP_u1_ := hid ((HP_u0_.out.below hb).below h12)
  have HW1 := hid hu
  clear hu h12 hb hans
  go_wp2_with (first | (refine store_st rfl 25 (.tmp 5) (.tmp 38) rfl v1.heap.size #[.int .u8 (x1.k : Int), .int .u8 (x1.n : Int), .int .u32 (x1.e : Int), .int .u32 (x1.l : Int), .int .u32 (x1.t : Int), .int .u32 (x1.g : Int), .int .u32 (x1.j : Int), .int .u32 (x1.v : Int), .int .u8 (x1.r : Int), .int .i64 x1.c, .int .u32 (x1.f : Int), .int .u32 (x1.o : Int), .slice ba1 bl1 bc1] rfl rfl #[.int .u8 0, .int .u8 0, .int .u32 0, .int .u32 0, .int .u32 0, .int .u32 0, .int .u32 0, .int .u32 0, .int .u8 0, .int .i64 0, .int .u32 0, .int .u32 0, .slice none 0 0] 13 HS1.out size_note rfl rfl (by simp [Value.oneCell']) ?_) | fail)
  rw [← HW1.out]
  refine (readrequest_any kv (Knot.knot l) u1_ HP_u1_.out HPL.out).mono ?_
  rintro e v2 ⟨x2, e2, rfl, hans, _, hb⟩
  have HAN2 := hid hans
  have hsv2 := hb.size
  have HS2 := hid (heap_alloc_new v2 (.cells #[.int .u8 0, .int .u32 0, .int .u8 0, .int .u8 0, .int .i64 0, .int .i64 0, .int .u32 0] 48))
  obtain ⟨u2_, hu⟩ : ∃ u, u = (v2.alloc (.cells #[.int .u8 0, .int .u32 0, .int .u8 0, .int .u8 0, .int .i64 0, .int .i64 0, .int .u32 0] 48)).setRow v2.heap.size #[.int .u8 (x2.cl : Int), .int .u32 (x2.s : Int), .int .u8 (x2.k : Int), .int .u8 (x2.t : Int), .int .i64 x2.kk, .int .i64 x2.w, .int .u32 (x2.j : Int)] := ⟨_, rfl⟩
  have h12 : Below v2.heap.size v2 u2_ := by rw [hu]; exact ((Below.refl _ _).alloc (Nat.le_refl _) _).trans (setRow_below _ (Nat.le_refl _))
  have HT2_u2_ := hid (show u2_.heap[v2.heap.size]? = some (.cells #[.int .u8 (x2.cl : Int), .int .u32 (x2.s : Int), .int .u8 (x2.k : Int), .int .u8 (x2.t : Int), .int .i64 x2.kk, .int .i64 x2.w, .int .u32 (x2.j : Int)] 48 (0, 0)) by rw [hu]; exact setRow_heap (v2.alloc (.cells #[.int .u8 0, .int .u32 0, .int .u8 0, .int .u8 0, .int .i64 0, .int .i64 0, .int .u32 0] 48)) v2.heap.size _ _ 48 _ HS2.out)
  have hsu2 : v2.heap.size + 1 ≤ u2_.heap.size := by rw [hu]; simp
  have HB_u2_ := hid (HB_u1_.out.trans ((hb.mono (by omega)).trans (h12.mono (by omega))))
  have HP_u2_ := hid ((HP_u1_.out.below hb).below h12)
  have HW2 := hid hu
  clear hu h12 hb hans
  go_wp2_with (first | (refine store_st rfl 48 (.tmp 7) (.tmp 43) rfl v2.heap.size #[.int .u8 (x2.cl : Int), .int .u32 (x2.s : Int), .int .u8 (x2.k : Int), .int .u8 (x2.t : Int), .int .i64 x2.kk, .int .i64 x2.w, .int .u32 (x2.j : Int)] rfl rfl #[.int .u8 0, .int .u32 0, .int .u8 0, .int .u8 0, .int .i64 0, .int .i64 0, .int .u32 0] 7 HS2.out size_request rfl rfl (by simp [Value.oneCell']) ?_) | fail)
  rw [← HW2.out]
  refine (readreply_any kv (Knot.knot l) u2_ HP_u2_.out HPL.out).mono ?_
  rintro e v3 ⟨x3, e3, rfl, hans, _, hb⟩
  have HAN3 := hid hans
  have hsv3 := hb.size
  have HS3 := hid (heap_alloc_new v3 (.cells #[.int .u8 0, .int .u32 0, .int .i64 0, .int .u32 0, .int .u8 0, .int .i64 0] 54))
  obtain ⟨u3_, hu⟩ : ∃ u, u = (v3.alloc (.cells #[.int .u8 0, .int .u32 0, .int .i64 0, .int .u32 0, .int .u8 0, .int .i64 0] 54)).setRow v3.heap.size #[.int .u8 (x3.cl : Int), .int .u32 (x3.s : Int), .int .i64 x3.e, .int .u32 (x3.j : Int), .int .u8 (x3.st : Int), .int .i64 x3.c] := ⟨_, rfl⟩
  have h12 : Below v3.heap.size v3 u3_ := by rw [hu]; exact ((Below.refl _ _).alloc (Nat.le_refl _) _).trans (setRow_below _ (Nat.le_refl _))
  have HT3_u3_ := hid (show u3_.heap[v3.heap.size]? = some (.cells #[.int .u8 (x3.cl : Int), .int .u32 (x3.s : Int), .int .i64 x3.e, .int .u32 (x3.j : Int), .int .u8 (x3.st : Int), .int .i64 x3.c] 54 (0, 0)) by rw [hu]; exact setRow_heap (v3.alloc (.cells #[.int .u8 0, .int .u32 0, .int .i64 0, .int .u32 0, .int .u8 0, .int .i64 0] 54)) v3.heap.size _ _ 54 _ HS3.out)
  have hsu3 : v3.heap.size + 1 ≤ u3_.heap.size := by rw [hu]; simp
  have HB_u3_ := hid (HB_u2_.out.trans ((hb.mono (by omega)).trans (h12.mono (by omega))))
  have HP_u3_ := hid ((HP_u2_.out.below hb).below h12)
  have HW3 := hid hu
  clear hu h12 hb hans
  go_wp2_with (first | (refine store_st rfl 54 (.tmp 9) (.tmp 48) rfl v3.heap.size #[.int .u8 (x3.cl : Int), .int .u32 (x3.s : Int), .int .i64 x3.e, .int .u32 (x3.j : Int), .int .u8 (x3.st : Int), .int .i64 x3.c] rfl rfl #[.int .u8 0, .int .u32 0, .int .i64 0, .int .u32 0, .int .u8 0, .int .i64 0] 6 HS3.out size_reply rfl rfl (by simp [Value.oneCell']) ?_) | fail)
  rw [← HW3.out]
  refine (readpacket_any kv (Knot.knot l) u3_ HP_u3_.out HPL.out).mono ?_
  rintro e v4 ⟨x4, bv4, e4, rfl, hans, _, hob, hb⟩
  have HAN4 := hid hans
  have hsv4 := hb.size
  obtain ⟨ba4, bc4, hbv, _⟩ := hob.rd
  obtain ⟨bl4, hbl⟩ : ∃ n, n = x4.b.length := ⟨_, rfl⟩
  rw [← hbl] at hbv
  subst hbv
  have HBL4 := hid hbl
  have HRD4_v4 := hid (show Rd v4 (.slice ba4 bl4 bc4) x4.b from hob.rd)
  clear hob hbl
  have HS4 := hid (heap_alloc_new v4 (.cells #[.int .u8 0, .int .u32 0, .int .u32 0, .int .u32 0, .int .u32 0, .bool false, .slice none 0 0] 38))
  obtain ⟨u4_, hu⟩ : ∃ u, u = (v4.alloc (.cells #[.int .u8 0, .int .u32 0, .int .u32 0, .int .u32 0, .int .u32 0, .bool false, .slice none 0 0] 38)).setRow v4.heap.size #[.int .u8 (x4.n : Int), .int .u32 (x4.e : Int), .int .u32 (x4.l : Int), .int .u32 (x4.s : Int), .int .u32 (x4.a : Int), .bool x4.p, .slice ba4 bl4 bc4] := ⟨_, rfl⟩
  have h12 : Below v4.heap.size v4 u4_ := by rw [hu]; exact ((Below.refl _ _).alloc (Nat.le_refl _) _).trans (setRow_below _ (Nat.le_refl _))
  have HT4_u4_ := hid (show u4_.heap[v4.heap.size]? = some (.cells #[.int .u8 (x4.n : Int), .int .u32 (x4.e : Int), .int .u32 (x4.l : Int), .int .u32 (x4.s : Int), .int .u32 (x4.a : Int), .bool x4.p, .slice ba4 bl4 bc4] 38 (0, 0)) by rw [hu]; exact setRow_heap (v4.alloc (.cells #[.int .u8 0, .int .u32 0, .int .u32 0, .int .u32 0, .int .u32 0, .bool false, .slice none 0 0] 38)) v4.heap.size _ _ 38 _ HS4.out)
  have hsu4 : v4.heap.size + 1 ≤ u4_.heap.size := by rw [hu]; simp
  have HB_u4_ := hid (HB_u3_.out.trans ((hb.mono (by omega)).trans (h12.mono (by omega))))
  have HRD4_u4_ := hid (HRD4_v4.out.below h12)
  have HP_u4_ := hid ((HP_u3_.out.below hb).below h12)
  have HW4 := hid hu
  clear hu h12 hb hans
  go_wp2_with (first | (refine store_st rfl 38 (.tmp 11) (.tmp 53) rfl v4.heap.size #[.int .u8 (x4.n : Int), .int .u32 (x4.e : Int), .int .u32 (x4.l : Int), .int .u32 (x4.s : Int), .int .u32 (x4.a : Int), .bool x4.p, .slice ba4 bl4 bc4] rfl rfl #[.int .u8 0, .int .u32 0, .int .u32 0, .int .u32 0, .int .u32 0, .bool false, .slice none 0 0] 7 HS4.out size_packet rfl rfl (by simp [Value.oneCell']) ?_) | fail)
  rw [← HW4.out]
  refine (refnote_read kv (Knot.knot l) u4_ HP_u4_.out HPL.out).mono ?_
  rintro e v5 ⟨x5, bv5, e5, rfl, hans, _, hob, hb⟩
  have HAN5 := hid hans
  have hsv5 := hb.size
  obtain ⟨ba5, bc5, hbv, _⟩ := hob.rd
  obtain ⟨bl5, hbl⟩ : ∃ n, n = x5.b.length := ⟨_, rfl⟩
  rw [← hbl] at hbv
  subst hbv
  have HBL5 := hid hbl
  have HRD5_v5 := hid (show Rd v5 (.slice ba5 bl5 bc5) x5.b from hob.rd)
  clear hob hbl
  have HS5 := hid (heap_alloc_new v5 (.cells #[.int .u8 0, .int .u8 0, .int .u32 0, .int .u32 0, .int .u32 0, .int .u32 0, .int .u32 0, .int .u32 0, .int .u8 0, .int .i64 0, .int .u32 0, .int .u32 0, .slice none 0 0] 25))
  obtain ⟨u5_, hu⟩ : ∃ u, u = (v5.alloc (.cells #[.int .u8 0, .int .u8 0, .int .u32 0, .int .u32 0, .int .u32 0, .int .u32 0, .int .u32 0, .int .u32 0, .int .u8 0, .int .i64 0, .int .u32 0, .int .u32 0, .slice none 0 0] 25)).setRow v5.heap.size #[.int .u8 (x5.k : Int), .int .u8 (x5.n : Int), .int .u32 (x5.e : Int), .int .u32 (x5.l : Int), .int .u32 (x5.t : Int), .int .u32 (x5.g : Int), .int .u32 (x5.j : Int), .int .u32 (x5.v : Int), .int .u8 (x5.r : Int), .int .i64 x5.c, .int .u32 (x5.f : Int), .int .u32 (x5.o : Int), .slice ba5 bl5 bc5] := ⟨_, rfl⟩
  have h12 : Below v5.heap.size v5 u5_ := by rw [hu]; exact ((Below.refl _ _).alloc (Nat.le_refl _) _).trans (setRow_below _ (Nat.le_refl _))
  have HT5_u5_ := hid (show u5_.heap[v5.heap.size]? = some (.cells #[.int .u8 (x5.k : Int), .int .u8 (x5.n : Int), .int .u32 (x5.e : Int), .int .u32 (x5.l : Int), .int .u32 (x5.t : Int), .int .u32 (x5.g : Int), .int .u32 (x5.j : Int), .int .u32 (x5.v : Int), .int .u8 (x5.r : Int), .int .i64 x5.c, .int .u32 (x5.f : Int), .int .u32 (x5.o : Int), .slice ba5 bl5 bc5] 25 (0, 0)) by rw [hu]; exact setRow_heap (v5.alloc (.cells #[.int .u8 0, .int .u8 0, .int .u32 0, .int .u32 0, .int .u32 0, .int .u32 0, .int .u32 0, .int .u32 0, .int .u8 0, .int .i64 0, .int .u32 0, .int .u32 0, .slice none 0 0] 25)) v5.heap.size _ _ 25 _ HS5.out)
  have hsu5 : v5.heap.size + 1 ≤ u5_.heap.size := by rw [hu]; simp
  have HB_u5_ := hid (HB_u4_.out.trans ((hb.mono (by omega)).trans (h12.mono (by omega))))
  have HRD5_u5_ := hid (HRD5_v5.out.below h12)
  have HP_u5_ := hid ((HP_u4_.out.below hb).below h12)
  obtain ⟨q1, q2⟩ := Note.Ans.unique Note.N.inj hans HAN1.out
  have HW5 := hid hu
  clear hu h12 hb hans
  have HQ1 := hid q2
  clear q1 q2
  go_wp2_with (first | (refine store_st rfl 25 (.tmp 13) (.tmp 58) rfl v5.heap.size #[.int .u8 (x5.k : Int), .int .u8 (x5.n : Int), .int .u32 (x5.e : Int), .int .u32 (x5.l : Int), .int .u32 (x5.t : Int), .int .u32 (x5.g : Int), .int .u32 (x5.j : Int), .int .u32 (x5.v : Int), .int .u8 (x5.r : Int), .int .i64 x5.c, .int .u32 (x5.f : Int), .int .u32 (x5.o : Int), .slice ba5 bl5 bc5] rfl rfl #[.int .u8 0, .int .u8 0, .int .u32 0, .int .u32 0, .int .u32 0, .int .u32 0, .int .u32 0, .int .u32 0, .int .u8 0, .int .i64 0, .int .u32 0, .int .u32 0, .slice none 0 0] 13 HS5.out size_note rfl rfl (by simp [Value.oneCell']) ?_) | fail)
  rw [← HW5.out]
  refine (refrequest_read kv (Knot.knot l) u5_ HP_u5_.out HPL.out).mono ?_
  rintro e v6 ⟨x6, e6, rfl, hans, _, hb⟩
  have HAN6 := hid hans
  have hsv6 := hb.size
  have HS6 := hid (heap_alloc_new v6 (.cells #[.int .u8 0, .int .u32 0, .int .u8 0, .int .u8 0, .int .i64 0, .int .i64 0, .int .u32 0] 48))
  obtain ⟨u6_, hu⟩ : ∃ u, u = (v6.alloc (.cells #[.int .u8 0, .int .u32 0, .int .u8 0, .int .u8 0, .int .i64 0, .int .i64 0, .int .u32 0] 48)).setRow v6.heap.size #[.int .u8 (x6.cl : Int), .int .u32 (x6.s : Int), .int .u8 (x6.k : Int), .int .u8 (x6.t : Int), .int .i64 x6.kk, .int .i64 x6.w, .int .u32 (x6.j : Int)] := ⟨_, rfl⟩
  have h12 : Below v6.heap.size v6 u6_ := by rw [hu]; exact ((Below.refl _ _).alloc (Nat.le_refl _) _).trans (setRow_below _ (Nat.le_refl _))
  have HT6_u6_ := hid (show u6_.heap[v6.heap.size]? = some (.cells #[.int .u8 (x6.cl : Int), .int .u32 (x6.s : Int), .int .u8 (x6.k : Int), .int .u8 (x6.t : Int), .int .i64 x6.kk, .int .i64 x6.w, .int .u32 (x6.j : Int)] 48 (0, 0)) by rw [hu]; exact setRow_heap (v6.alloc (.cells #[.int .u8 0, .int .u32 0, .int .u8 0, .int .u8 0, .int .i64 0, .int .i64 0, .int .u32 0] 48)) v6.heap.size _ _ 48 _ HS6.out)
  have hsu6 : v6.heap.size + 1 ≤ u6_.heap.size := by rw [hu]; simp
  have HB_u6_ := hid (HB_u5_.out.trans ((hb.mono (by omega)).trans (h12.mono (by omega))))
  have HP_u6_ := hid ((HP_u5_.out.below hb).below h12)
  obtain ⟨q1, q2⟩ := Note.Ans.unique Note.Q.inj hans HAN2.out
  have HW6 := hid hu
  clear hu h12 hb hans
  have HQ2 := hid q2
  clear q1 q2
  go_wp2_with (first | (refine store_st rfl 48 (.tmp 15) (.tmp 63) rfl v6.heap.size #[.int .u8 (x6.cl : Int), .int .u32 (x6.s : Int), .int .u8 (x6.k : Int), .int .u8 (x6.t : Int), .int .i64 x6.kk, .int .i64 x6.w, .int .u32 (x6.j : Int)] rfl rfl #[.int .u8 0, .int .u32 0, .int .u8 0, .int .u8 0, .int .i64 0, .int .i64 0, .int .u32 0] 7 HS6.out size_request rfl rfl (by simp [Value.oneCell']) ?_) | fail)
  rw [← HW6.out]
  refine (refreply_read kv (Knot.knot l) u6_ HP_u6_.out HPL.out).mono ?_
  rintro e v7 ⟨x7, e7, rfl, hans, _, hb⟩
  have HAN7 := hid hans
  have hsv7 := hb.size
  have HS7 := hid (heap_alloc_new v7 (.cells #[.int .u8 0, .int .u32 0, .int .i64 0, .int .u32 0, .int .u8 0, .int .i64 0] 54))
  obtain ⟨u7_, hu⟩ : ∃ u, u = (v7.alloc (.cells #[.int .u8 0, .int .u32 0, .int .i64 0, .int .u32 0, .int .u8 0, .int .i64 0] 54)).setRow v7.heap.size #[.int .u8 (x7.cl : Int), .int .u32 (x7.s : Int), .int .i64 x7.e, .int .u32 (x7.j : Int), .int .u8 (x7.st : Int), .int .i64 x7.c] := ⟨_, rfl⟩
  have h12 : Below v7.heap.size v7 u7_ := by rw [hu]; exact ((Below.refl _ _).alloc (Nat.le_refl _) _).trans (setRow_below _ (Nat.le_refl _))
  have HT7_u7_ := hid (show u7_.heap[v7.heap.size]? = some (.cells #[.int .u8 (x7.cl : Int), .int .u32 (x7.s : Int), .int .i64 x7.e, .int .u32 (x7.j : Int), .int .u8 (x7.st : Int), .int .i64 x7.c] 54 (0, 0)) by rw [hu]; exact setRow_heap (v7.alloc (.cells #[.int .u8 0, .int .u32 0, .int .i64 0, .int .u32 0, .int .u8 0, .int .i64 0] 54)) v7.heap.size _ _ 54 _ HS7.out)
  have hsu7 : v7.heap.size + 1 ≤ u7_.heap.size := by rw [hu]; simp
  have HB_u7_ := hid (HB_u6_.out.trans ((hb.mono (by omega)).trans (h12.mono (by omega))))
  have HP_u7_ := hid ((HP_u6_.out.below hb).below h12)
  obtain ⟨q1, q2⟩ := Note.Ans.unique Note.R.inj hans HAN3.out
  have HW7 := hid hu
  clear hu h12 hb hans
  have HQ3 := hid q2
  clear q1 q2
  go_wp2_with (first | (refine store_st rfl 54 (.tmp 17) (.tmp 68) rfl v7.heap.size #[.int .u8 (x7.cl : Int), .int .u32 (x7.s : Int), .int .i64 x7.e, .int .u32 (x7.j : Int), .int .u8 (x7.st : Int), .int .i64 x7.c] rfl rfl #[.int .u8 0, .int .u32 0, .int .i64 0, .int .u32 0, .int .u8 0, .int .i64 0] 6 HS7.out size_reply rfl rfl (by simp [Value.oneCell']) ?_) | fail)
  rw [← HW7.out]
  refine (refpacket_read kv (Knot.knot l) u7_ HP_u7_.out HPL.out).mono ?_
  rintro e v8 ⟨x8, bv8, e8, rfl, hans, _, hob, hb⟩
  have HAN8 := hid hans
  have hsv8 := hb.size
  obtain ⟨ba8, bc8, hbv, _⟩ := hob.rd
  obtain ⟨bl8, hbl⟩ : ∃ n, n = x8.b.length := ⟨_, rfl⟩
  rw [← hbl] at hbv
  subst hbv
  have HBL8 := hid hbl
  have HRD8_v8 := hid (show Rd v8 (.slice ba8 bl8 bc8) x8.b from hob.rd)
  clear hob hbl
  have HS8 := hid (heap_alloc_new v8 (.cells #[.int .u8 0, .int .u32 0, .int .u32 0, .int .u32 0, .int .u32 0, .bool false, .slice none 0 0] 38))
  obtain ⟨u8_, hu⟩ : ∃ u, u = (v8.alloc (.cells #[.int .u8 0, .int .u32 0, .int .u32 0, .int .u32 0, .int .u32 0, .bool false, .slice none 0 0] 38)).setRow v8.heap.size #[.int .u8 (x8.n : Int), .int .u32 (x8.e : Int), .int .u32 (x8.l : Int), .int .u32 (x8.s : Int), .int .u32 (x8.a : Int), .bool x8.p, .slice ba8 bl8 bc8] := ⟨_, rfl⟩
  have h12 : Below v8.heap.size v8 u8_ := by rw [hu]; exact ((Below.refl _ _).alloc (Nat.le_refl _) _).trans (setRow_below _ (Nat.le_refl _))
  have HT8_u8_ := hid (show u8_.heap[v8.heap.size]? = some (.cells #[.int .u8 (x8.n : Int), .int .u32 (x8.e : Int), .int .u32 (x8.l : Int), .int .u32 (x8.s : Int), .int .u32 (x8.a : Int), .bool x8.p, .slice ba8 bl8 bc8] 38 (0, 0)) by rw [hu]; exact setRow_heap (v8.alloc (.cells #[.int .u8 0, .int .u32 0, .int .u32 0, .int .u32 0, .int .u32 0, .bool false, .slice none 0 0] 38)) v8.heap.size _ _ 38 _ HS8.out)
  have hsu8 : v8.heap.size + 1 ≤ u8_.heap.size := by rw [hu]; simp
  have HB_u8_ := hid (HB_u7_.out.trans ((hb.mono (by omega)).trans (h12.mono (by omega))))
  have HRD8_u8_ := hid (HRD8_v8.out.below h12)
  have HP_u8_ := hid ((HP_u7_.out.below hb).below h12)
  obtain ⟨q1, q2⟩ := Note.Ans.unique Note.P.inj hans HAN4.out
  have HW8 := hid hu
  clear hu h12 hb hans
  have HQ4 := hid q2
  clear q1 q2
  have HCZ := hid (four_once HAN1.out HAN2.out HAN3.out HAN4.out)
  have r1 := HQ1.out
  have r2 := HQ2.out
  have r3 := HQ3.out
  have r4 := HQ4.out
  subst r1 r2 r3 r4
  go_upto_region 13 with (first | (refine store_st rfl 38 (.tmp 19) (.tmp 73) rfl v8.heap.size #[.int .u8 (x8.n : Int), .int .u32 (x8.e : Int), .int .u32 (x8.l : Int), .int .u32 (x8.s : Int), .int .u32 (x8.a : Int), .bool x8.p, .slice ba8 bl8 bc8] rfl rfl #[.int .u8 0, .int .u32 0, .int .u32 0, .int .u32 0, .int .u32 0, .bool false, .slice none 0 0] 7 HS8.out size_packet rfl rfl (by simp [Value.oneCell']) ?_) | fail)
  rw [← HW8.out]
  obtain ⟨wz, hwz⟩ : ∃ wz, wz = u8_.alloc (.cells #[.int .i64 e5, .int .i64 e6, .int .i64 e7, .int .i64 e8] 27) := ⟨_, rfl⟩
  have HZ := hid (show wz.heap[u8_.heap.size]? = some (.cells (([e5, e6, e7, e8] : List Int).map fun (z : Int) => Value.int .i64 z).toArray 27 (0, 0)) by rw [hwz]; exact heap_alloc_new u8_ _)
  have HBZ := hid (show Below w.heap.size w wz by rw [hwz]; exact HB_u8_.out.alloc (by omega) _)
  have HWZ := hid hwz
  clear hwz
  obtain ⟨es, hes⟩ : ∃ es, es = [e5, e6, e7, e8] := ⟨_, rfl⟩
  rw [← hes] at HZ HCZ
  have HEL := hid (show es.length = 4 by rw [hes]; rfl)
  clear hes
  go_upto_region 14 with (fail)
  rw [← HWZ.out]
  go_loop [21, 81] (fun c i => ∃ k : Nat, k ≤ 4 ∧ i = .int .i64 k ∧ c = .int .i64 (cz (es.take k) : Int)) (fun _ i => 4 - (intOf i).toNat)
  case atStart => exact ⟨0, by omega, rfl, rfl⟩
  case round =>
    obtain ⟨k, hk, rfl, rfl⟩ := hrel
    by_cases hlt : k < 4
    · have HT := hid (cz_take es k (by rw [HEL.out]; exact hlt))
      have hcz := cz_le (es.take k)
      have hcl : (es.take k).length ≤ 4 := by rw [List.length_take, HEL.out]; omega
      obtain ⟨z, hz⟩ : ∃ z, z = es.getD k 0 := ⟨_, rfl⟩
      have hc : wz.cell? ⟨u8_.heap.size, k, none⟩ = some (.int .i64 z) := by
        rw [cell_of_row _ _ _ _ _ _ HZ.out, hz]
        simp [List.getD_eq_getElem?_getD, show k < es.length by rw [HEL.out]; exact hlt]
      rw [← hz] at HT
      clear hz
      obtain ⟨c, hcc⟩ : ∃ c, c = cz (es.take k) := ⟨_, rfl⟩
      rw [← hcc] at HT hcz ⊢
      clear hcc
      by_cases h0 : z = 0
      · have hb : (z == 0) = true := by rw [beq_iff_eq]; exact h0
        have H0 := hid h0
        clear h0
        go_wp2
        go_round
        case rel => exact ⟨k + 1, hlt, by go_num, by rw [HT.out, if_pos H0.out]; go_num⟩
        case measure => simp [intOf]; omega
      · have hb : (z == 0) = false := by rw [beq_eq_false_iff_ne]; exact h0
        have H0 := hid h0
        clear h0
        go_wp2
        go_round
        case rel => exact ⟨k + 1, hlt, by go_num, by rw [HT.out, if_neg H0.out]; rfl⟩
        case measure => simp [intOf]; omega
    · obtain rfl : k = 4 := by omega
      have hall : es.take 4 = es := List.take_of_length_le (by rw [HEL.out]; omega)
      rw [hall]
      obtain ⟨c, hcc⟩ : ∃ c, c = cz es := ⟨_, rfl⟩
      have hc1 : (c : Int) ≤ 1 := by rw [hcc]; have := HCZ.out; omega
      rw [← hcc]
      clear hcc hall
      go_wp2
      go_ret
      exact ⟨rfl, HBZ.out⟩

set_option maxHeartbeats 1000000 in
theorem walk (a0 : Option Addr) (len0 cap0 : Nat) (z0 : List Int) (w : World) (w0 : IsRow .u8 w a0 len0 cap0 z0) :
    Calls Try.prog 6 #[.slice a0 len0 cap0] w fun e w' => e = .returned (.bool true) ∧ Below w.heap.size w w' := by
  obtain ⟨hb1, hb2, hb3⟩ := w0.bounds
  by_cases hk : len0 ≤ 300
  · obtain ⟨l, hl, hrd⟩ := w0.rd len0 (Nat.le_refl _)
    exact nbd_some a0 cap0 len0 hk l w (by omega) hb1 hl.symm hrd
  · obtain ⟨l, hl, hrd⟩ := w0.rd 300 (by omega)
    exact nbd_many a0 cap0 len0 (by omega) l w (by omega) hb1 hl.symm hrd

/-! ### THE ROW's STEP -/
set_option maxRecDepth 100000 in
theorem lifted (os : Os) (started : os.Started) (H : Type) (enc : TypeId × Value → H) :
    ReturnsInHanded {} Try.checked os 6 .any (Rows.noteBodiesSpec.pre6 enc Try.prog Try.f6 Rows.noteBodiesRow.domain false) (Rows.noteBodiesSpec.post enc Try.prog Try.f6 false true false false) := by
  refine returnsInHanded_of_change (C := Try.checked) own started (by kernel_rfl) Try.func6
    (ChangeSpec.witness6 (enc := enc) (C := Try.checked) false ⟨#[], #[.slice none 0 0], []⟩ 8 (by kernel_rfl) (by kernel_rfl) (by kernel_rfl) (by kernel_rfl)) ?_
  intro W base args ds gs before hval0 hW hcnd _
  have hval : ∀ (j : Nat) t v, Try.f6.params[j]? = some t → args[j]? = some v → Value.okWide Try.prog W .any base t v := hval0
  have hW' := hW
  obtain ⟨p, q, hA0, hV, rfl, hfz, hnd⟩ := hW
  have hA : DataW.TrodAll enc Try.prog W 0 (fun _ => true) true Try.f6.params.toList args.toList ds p := hA0
  rw [Try.params6] at hA hval
  obtain ⟨v0, vs0, d0, ds0, p0, q0, hargs, rfl, rfl, h0, r0⟩ := trodAll_cons hA
  obtain ⟨rfl, rfl, rfl⟩ := trodAll_nil r0
  obtain rfl : args = #[v0] := by cases args; simp_all
  obtain ⟨rfl, rfl⟩ := trodVars_none hV
  have k0 := h0
  have lt0 : ∀ x ∈ p0, x.block < W.heap.size := by obtain ⟨m, hm⟩ := k0; exact DataW.trod_lt m _ _ _ hm
  obtain ⟨a0, len0, cap0, rfl⟩ := okWide_slice Try.underlying23 (hval 0 23 v0 rfl rfl)
  obtain ⟨z0, w0⟩ : ∃ zs, IsRow .u8 W a0 len0 cap0 zs := by
    obtain ⟨fuel, hf⟩ := h0
    rcases open_ints Try.underlying23 Try.underlying5 (by kernel_rfl) hf with ⟨hcs, _⟩ | ⟨x, l, c, zs, hcs, _, hl, hm, hz, _, hcell, hwz⟩
    · simp [Value.cells] at hcs
      obtain ⟨rfl, rfl, rfl⟩ := hcs
      exact ⟨[], .inl ⟨rfl, rfl, rfl, rfl⟩⟩
    · simp [Value.cells] at hcs
      obtain ⟨rfl, rfl, rfl⟩ := hcs
      exact ⟨zs, .inr ⟨_, rfl, hl, hm, by simpa using hz, hcell, hwz⟩⟩
  clear hA0 hval0
  refine (walk a0 len0 cap0 z0 W w0).mono fun e W' ⟨he, bel⟩ => ?_
  subst he
  exact ⟨_, rfl, _, _, _, [], _, [], hW', trodAll_mk1 (shut_bool Try.underlying4 _), (trodAll_cons_mk (Below.trod laidOut (by kernel_rfl) (of_decide_eq_true (by kernel_rfl)) k0 bel lt0) trodAll_mk0), rfl, bel.frame _, fun h => by cases h⟩

theorem over : Rows.noteBodiesRow.holds Try.pinned (OpenSpec.ofChange Rows.noteBodiesSpec) :=
  OpenClaim.holds_of_wide 6 Try.f6 rfl rfl rfl rfl rfl rfl rfl ⟨rfl, rfl, rfl, rfl, rfl⟩ rfl rfl rfl rfl rfl (by kernel_rfl) Try.func6 (by kernel_rfl)
    (of_decide_eq_true (by kernel_rfl)) (by unfold Func.isWrapper; first | (rw [if_pos (by decide +kernel)]; kernel_rfl) | (rw [if_neg (by decide +kernel)]; exact ⟨rfl, rfl⟩))
    (fun os started H enc _ => lifted os started H enc)

/-- THE STATEMENT -/
theorem noteBodies_holds : Rows.NoteBodiesSaid := over
#print axioms noteBodies_holds
end Go.Proofs.Ytafpgglebjllbaa.noteBodies
