/-
  NoteReads: all bytes are read as a note, a request, a reply or a packet, or none, as the document's own readers tell; they come back untouched. No condition.
  (The frame behind the walk is the guide's shell, at these parameters.)
-/
import Derived.Test.YtafpgglebjllbaaRows
import Derived.WalkKit
import Derived.Test.YtafpgglebjllbaaNotePk
import Derived.Test.YtafpgglebjllbaaNoteYNP
import Derived.Test.YtafpgglebjllbaaNoteGN
import Derived.Test.YtafpgglebjllbaaAwake4
import Derived.Test.YtafpgglebjllbaaNoteZ
import Derived.Test.YtafpgglebjllbaaNoteO
import Derived.Test.YtafpgglebjllbaaNoteNk
import Derived.Test.YtafpgglebjllbaaNoteRx
import Derived.ProofKit
import Derived.Deep.Cut
import Derived.OpenShut
import Derived.ShutString
import Derived.ChangeOld
import Derived.Below
namespace Go.Proofs.Ytafpgglebjllbaa.noteReads
open Go.ChangeShapes Go.WideShapes Go.ChangeAt Go.RowKit
open Go.ChangeMaps (open_string shut_string)
set_option linter.unusedVariables false

theorem own : ownKnob Try.prog.godebug = none := by kernel_rfl
theorem laidOut : laidOutB Try.prog = true := by kernel_rfl

set_option maxRecDepth 100000 in
set_option maxHeartbeats 8000000 in
theorem nrs_some (A : Option Addr) (C : Nat) (K : Nat) (hK : K ≤ 400) (l : List UInt8) (w : World) (hC : C ≤ 9223372036854775807) (hKC : K ≤ C) (hl : K = l.length) (hrd : Rd w (.slice A K C) l) :
    Calls Try.prog 5 #[.slice A K C] w fun e w' => e = .returned (.bool true) ∧ Below w.heap.size w w' := by
  have HRD := hid hrd
  have HLL := hid (show K = l.length ∧ l.length ≤ 400 from ⟨hl, by omega⟩)
  have HPL := hid (show l.length ≤ 100000 by omega)
  skip
  clear hrd hl
  go_enter Try.func5, Try.ntmps5
  go_wp2_with fail
  refine (awake4_any _).mono ?_
  rintro e wa ⟨rfl, hba⟩
  have HBA := hid hba
  have hsa := hba.size
  clear hba
  have HR0 := hid ((HRD.out.below HBA.out).alloc (.cells #[] 5))
  have HO0 := hid (Own.empty wa w.heap.size hsa)
  have HB0 := hid (HBA.out.alloc hsa (.cells #[] 5))
  go_wp2_with (first | (at_builtin; (refine appk rfl (.tmp 27) (.tmp 28) rfl w.heap.size (.slice (some ⟨wa.heap.size, 0, none⟩) 0 0) _ [] l l K rfl rfl HO0.out HR0.out (by have := HLL.out; simp <;> omega) rfl (by have := HLL.out; simp <;> omega) (by simp; omega) ?_); intro ad1 cp1 w1 ho1 hg1; have HO1 := hid (ho1.alloc (.cells #[.int .u8 165] 5)); have HB1 := hid ((HO0.out.grown HB0.out hg1 (Nat.le_refl _) (by simp; omega)).alloc (HO0.out.grown HB0.out hg1 (Nat.le_refl _) (by simp; omega)).size (.cells #[.int .u8 165] 5)); clear ho1 hg1) | (at_builtin; go_must (refine app1 rfl (.tmp 29) (.tmp 30) rfl w.heap.size (.slice ad1 K cp1) (.slice (some ⟨w1.heap.size, 0, none⟩) 1 1) l [165] (K + 1) rfl rfl HO1.out (Rd.one w1 165 165 rfl) (by have := HLL.out; simp <;> omega) (by simp) (by have := HLL.out; simp <;> omega) HB1.out.size ?_); intro g c u0_ ho2 hg2 hc1 hc2 hwg; have HOW_u0_ := hid ho2; have HB_u0_ := hid (HO1.out.grown HB1.out hg2 (Nat.le_refl _) HB1.out.size); have HP_u0_ := hid (show Rd u0_ (.slice (some ⟨g, 0, none⟩) K c) l by have := ho2.front; rwa [show l.length = K from HLL.out.1.symm] at this); have hs0 := HB_u0_.out.size; have HD_u0_ := hid (HRD.out.below HB_u0_.out); clear ho2 hg2 hwg) | fail)
  refine (readnote_any (.slice (some ⟨g, 0, none⟩) K c) l u0_ HP_u0_.out HPL.out).mono ?_
  rintro e v1 ⟨x1, bv1, e1, rfl, hans, _, hob, hb⟩
  have HAN1 := hid hans
  have hsv1 := hb.size
  obtain ⟨ba1, bc1, hbv, _⟩ := hob.rd
  obtain ⟨bl1, hbl⟩ : ∃ n, n = x1.b.length := ⟨_, rfl⟩
  rw [← hbl] at hbv
  subst hbv
  have HBL1 := hid hbl
  have HRD1_v1 := hid (show Rd v1 (.slice ba1 bl1 bc1) x1.b from hob.rd)
  clear hob hbl
  have HS1 := hid (heap_alloc_new v1 (.cells #[.int .u8 0, .int .u8 0, .int .u32 0, .int .u32 0, .int .u32 0, .int .u32 0, .int .u32 0, .int .u32 0, .int .u8 0, .int .i64 0, .int .u32 0, .int .u32 0, .slice none 0 0] 25))
  obtain ⟨u1_, hu⟩ : ∃ u, u = (v1.alloc (.cells #[.int .u8 0, .int .u8 0, .int .u32 0, .int .u32 0, .int .u32 0, .int .u32 0, .int .u32 0, .int .u32 0, .int .u8 0, .int .i64 0, .int .u32 0, .int .u32 0, .slice none 0 0] 25)).setRow v1.heap.size #[.int .u8 (x1.k : Int), .int .u8 (x1.n : Int), .int .u32 (x1.e : Int), .int .u32 (x1.l : Int), .int .u32 (x1.t : Int), .int .u32 (x1.g : Int), .int .u32 (x1.j : Int), .int .u32 (x1.v : Int), .int .u8 (x1.r : Int), .int .i64 x1.c, .int .u32 (x1.f : Int), .int .u32 (x1.o : Int), .slice ba1 bl1 bc1] := ⟨_, rfl⟩
  have h12 : Below v1.heap.size v1 u1_ := by rw [hu]; exact ((Below.refl _ _).alloc (Nat.le_refl _) _).trans (setRow_below _ (Nat.le_refl _))
  have HT1_u1_ := hid (show u1_.heap[v1.heap.size]? = some (.cells #[.int .u8 (x1.k : Int), .int .u8 (x1.n : Int), .int .u32 (x1.e : Int), .int .u32 (x1.l : Int), .int .u32 (x1.t : Int), .int .u32 (x1.g : Int), .int .u32 (x1.j : Int), .int .u32 (x1.v : Int), .int .u8 (x1.r : Int), .int .i64 x1.c, .int .u32 (x1.f : Int), .int .u32 (x1.o : Int), .slice ba1 bl1 bc1] 25 (0, 0)) by rw [hu]; exact setRow_heap (v1.alloc (.cells #[.int .u8 0, .int .u8 0, .int .u32 0, .int .u32 0, .int .u32 0, .int .u32 0, .int .u32 0, .int .u32 0, .int .u8 0, .int .i64 0, .int .u32 0, .int .u32 0, .slice none 0 0] 25)) v1.heap.size _ _ 25 _ HS1.out)
  have hsu1 : v1.heap.size + 1 ≤ u1_.heap.size := by rw [hu]; simp
  have HB_u1_ := hid (HB_u0_.out.trans ((hb.mono (by omega)).trans (h12.mono (by omega))))
  have HRD1_u1_ := hid (HRD1_v1.out.below h12)
  have HP_u1_ := hid ((HP_u0_.out.below hb).below h12)
  have HD_u1_ := hid ((HD_u0_.out.below hb).below h12)
  have HOW_u1_ := hid ((HOW_u0_.out.below hb).below h12)
  have HW1 := hid hu
  clear hu h12 hb hans
  go_wp2_with (first | (refine store_st rfl 25 (.tmp 4) (.tmp 38) rfl v1.heap.size #[.int .u8 (x1.k : Int), .int .u8 (x1.n : Int), .int .u32 (x1.e : Int), .int .u32 (x1.l : Int), .int .u32 (x1.t : Int), .int .u32 (x1.g : Int), .int .u32 (x1.j : Int), .int .u32 (x1.v : Int), .int .u8 (x1.r : Int), .int .i64 x1.c, .int .u32 (x1.f : Int), .int .u32 (x1.o : Int), .slice ba1 bl1 bc1] rfl rfl #[.int .u8 0, .int .u8 0, .int .u32 0, .int .u32 0, .int .u32 0, .int .u32 0, .int .u32 0, .int .u32 0, .int .u8 0, .int .i64 0, .int .u32 0, .int .u32 0, .slice none 0 0] 13 HS1.out size_note rfl rfl (by simp [Value.oneCell']) ?_) | fail)
  rw [← HW1.out]
  refine (refnote_read (.slice A K C) l u1_ HD_u1_.out HPL.out).mono ?_
  rintro e v2 ⟨x2, bv2, e2, rfl, hans, _, hob, hb⟩
  have HAN2 := hid hans
  have hsv2 := hb.size
  obtain ⟨ba2, bc2, hbv, _⟩ := hob.rd
  obtain ⟨bl2, hbl⟩ : ∃ n, n = x2.b.length := ⟨_, rfl⟩
  rw [← hbl] at hbv
  subst hbv
  have HBL2 := hid hbl
  have HRD2_v2 := hid (show Rd v2 (.slice ba2 bl2 bc2) x2.b from hob.rd)
  clear hob hbl
  have HS2 := hid (heap_alloc_new v2 (.cells #[.int .u8 0, .int .u8 0, .int .u32 0, .int .u32 0, .int .u32 0, .int .u32 0, .int .u32 0, .int .u32 0, .int .u8 0, .int .i64 0, .int .u32 0, .int .u32 0, .slice none 0 0] 25))
  obtain ⟨u2_, hu⟩ : ∃ u, u = (v2.alloc (.cells #[.int .u8 0, .int .u8 0, .int .u32 0, .int .u32 0, .int .u32 0, .int .u32 0, .int .u32 0, .int .u32 0, .int .u8 0, .int .i64 0, .int .u32 0, .int .u32 0, .slice none 0 0] 25)).setRow v2.heap.size #[.int .u8 (x2.k : Int), .int .u8 (x2.n : Int), .int .u32 (x2.e : Int), .int .u32 (x2.l : Int), .int .u32 (x2.t : Int), .int .u32 (x2.g : Int), .int .u32 (x2.j : Int), .int .u32 (x2.v : Int), .int .u8 (x2.r : Int), .int .i64 x2.c, .int .u32 (x2.f : Int), .int .u32 (x2.o : Int), .slice ba2 bl2 bc2] := ⟨_, rfl⟩
  have h12 : Below v2.heap.size v2 u2_ := by rw [hu]; exact ((Below.refl _ _).alloc (Nat.le_refl _) _).trans (setRow_below _ (Nat.le_refl _))
  have HT2_u2_ := hid (show u2_.heap[v2.heap.size]? = some (.cells #[.int .u8 (x2.k : Int), .int .u8 (x2.n : Int), .int .u32 (x2.e : Int), .int .u32 (x2.l : Int), .int .u32 (x2.t : Int), .int .u32 (x2.g : Int), .int .u32 (x2.j : Int), .int .u32 (x2.v : Int), .int .u8 (x2.r : Int), .int .i64 x2.c, .int .u32 (x2.f : Int), .int .u32 (x2.o : Int), .slice ba2 bl2 bc2] 25 (0, 0)) by rw [hu]; exact setRow_heap (v2.alloc (.cells #[.int .u8 0, .int .u8 0, .int .u32 0, .int .u32 0, .int .u32 0, .int .u32 0, .int .u32 0, .int .u32 0, .int .u8 0, .int .i64 0, .int .u32 0, .int .u32 0, .slice none 0 0] 25)) v2.heap.size _ _ 25 _ HS2.out)
  have hsu2 : v2.heap.size + 1 ≤ u2_.heap.size := by rw [hu]; simp
  have HB_u2_ := hid (HB_u1_.out.trans ((hb.mono (by omega)).trans (h12.mono (by omega))))
  have HRD2_u2_ := hid (HRD2_v2.out.below h12)
  have HP_u2_ := hid ((HP_u1_.out.below hb).below h12)
  have HD_u2_ := hid ((HD_u1_.out.below hb).below h12)
  have HOW_u2_ := hid ((HOW_u1_.out.below hb).below h12)
  have HRD1_u2_ := hid ((HRD1_u1_.out.below hb).below h12)
  have HT1_u2_ := hid ((h12.block v1.heap.size (by omega)).trans ((hb.block v1.heap.size (by omega)).trans HT1_u1_.out))
  obtain ⟨q1, q2⟩ := Note.Ans.unique Note.N.inj hans HAN1.out
  have HW2 := hid hu
  clear hu h12 hb hans
  have HX2 := hid q1
  have HQ2 := hid q2
  clear q1 q2
  go_wp2_with (first | (refine store_st rfl 25 (.tmp 6) (.tmp 43) rfl v2.heap.size #[.int .u8 (x2.k : Int), .int .u8 (x2.n : Int), .int .u32 (x2.e : Int), .int .u32 (x2.l : Int), .int .u32 (x2.t : Int), .int .u32 (x2.g : Int), .int .u32 (x2.j : Int), .int .u32 (x2.v : Int), .int .u8 (x2.r : Int), .int .i64 x2.c, .int .u32 (x2.f : Int), .int .u32 (x2.o : Int), .slice ba2 bl2 bc2] rfl rfl #[.int .u8 0, .int .u8 0, .int .u32 0, .int .u32 0, .int .u32 0, .int .u32 0, .int .u32 0, .int .u32 0, .int .u8 0, .int .i64 0, .int .u32 0, .int .u32 0, .slice none 0 0] 13 HS2.out size_note rfl rfl (by simp [Value.oneCell']) ?_) | fail)
  rw [← HW2.out]
  refine (readrequest_any (.slice (some ⟨g, 0, none⟩) K c) l u2_ HP_u2_.out HPL.out).mono ?_
  rintro e v3 ⟨x3, e3, rfl, hans, _, hb⟩
  have HAN3 := hid hans
  have hsv3 := hb.size
  have HS3 := hid (heap_alloc_new v3 (.cells #[.int .u8 0, .int .u32 0, .int .u8 0, .int .u8 0, .int .i64 0, .int .i64 0, .int .u32 0] 48))
  obtain ⟨u3_, hu⟩ : ∃ u, u = (v3.alloc (.cells #[.int .u8 0, .int .u32 0, .int .u8 0, .int .u8 0, .int .i64 0, .int .i64 0, .int .u32 0] 48)).setRow v3.heap.size #[.int .u8 (x3.cl : Int), .int .u32 (x3.s : Int), .int .u8 (x3.k : Int), .int .u8 (x3.t : Int), .int .i64 x3.kk, .int .i64 x3.w, .int .u32 (x3.j : Int)] := ⟨_, rfl⟩
  have h12 : Below v3.heap.size v3 u3_ := by rw [hu]; exact ((Below.refl _ _).alloc (Nat.le_refl _) _).trans (setRow_below _ (Nat.le_refl _))
  have HT3_u3_ := hid (show u3_.heap[v3.heap.size]? = some (.cells #[.int .u8 (x3.cl : Int), .int .u32 (x3.s : Int), .int .u8 (x3.k : Int), .int .u8 (x3.t : Int), .int .i64 x3.kk, .int .i64 x3.w, .int .u32 (x3.j : Int)] 48 (0, 0)) by rw [hu]; exact setRow_heap (v3.alloc (.cells #[.int .u8 0, .int .u32 0, .int .u8 0, .int .u8 0, .int .i64 0, .int .i64 0, .int .u32 0] 48)) v3.heap.size _ _ 48 _ HS3.out)
  have hsu3 : v3.heap.size + 1 ≤ u3_.heap.size := by rw [hu]; simp
  have HB_u3_ := hid (HB_u2_.out.trans ((hb.mono (by omega)).trans (h12.mono (by omega))))
  have HP_u3_ := hid ((HP_u2_.out.below hb).below h12)
  have HD_u3_ := hid ((HD_u2_.out.below hb).below h12)
  have HOW_u3_ := hid ((HOW_u2_.out.below hb).below h12)
  have HRD1_u3_ := hid ((HRD1_u2_.out.below hb).below h12)
  have HRD2_u3_ := hid ((HRD2_u2_.out.below hb).below h12)
  have HT1_u3_ := hid ((h12.block v1.heap.size (by omega)).trans ((hb.block v1.heap.size (by omega)).trans HT1_u2_.out))
  have HT2_u3_ := hid ((h12.block v2.heap.size (by omega)).trans ((hb.block v2.heap.size (by omega)).trans HT2_u2_.out))
  have HW3 := hid hu
  clear hu h12 hb hans
  go_wp2_with (first | (refine store_st rfl 48 (.tmp 8) (.tmp 48) rfl v3.heap.size #[.int .u8 (x3.cl : Int), .int .u32 (x3.s : Int), .int .u8 (x3.k : Int), .int .u8 (x3.t : Int), .int .i64 x3.kk, .int .i64 x3.w, .int .u32 (x3.j : Int)] rfl rfl #[.int .u8 0, .int .u32 0, .int .u8 0, .int .u8 0, .int .i64 0, .int .i64 0, .int .u32 0] 7 HS3.out size_request rfl rfl (by simp [Value.oneCell']) ?_) | fail)
  rw [← HW3.out]
  refine (refrequest_read (.slice A K C) l u3_ HD_u3_.out HPL.out).mono ?_
  rintro e v4 ⟨x4, e4, rfl, hans, _, hb⟩
  have HAN4 := hid hans
  have hsv4 := hb.size
  have HS4 := hid (heap_alloc_new v4 (.cells #[.int .u8 0, .int .u32 0, .int .u8 0, .int .u8 0, .int .i64 0, .int .i64 0, .int .u32 0] 48))
  obtain ⟨u4_, hu⟩ : ∃ u, u = (v4.alloc (.cells #[.int .u8 0, .int .u32 0, .int .u8 0, .int .u8 0, .int .i64 0, .int .i64 0, .int .u32 0] 48)).setRow v4.heap.size #[.int .u8 (x4.cl : Int), .int .u32 (x4.s : Int), .int .u8 (x4.k : Int), .int .u8 (x4.t : Int), .int .i64 x4.kk, .int .i64 x4.w, .int .u32 (x4.j : Int)] := ⟨_, rfl⟩
  have h12 : Below v4.heap.size v4 u4_ := by rw [hu]; exact ((Below.refl _ _).alloc (Nat.le_refl _) _).trans (setRow_below _ (Nat.le_refl _))
  have HT4_u4_ := hid (show u4_.heap[v4.heap.size]? = some (.cells #[.int .u8 (x4.cl : Int), .int .u32 (x4.s : Int), .int .u8 (x4.k : Int), .int .u8 (x4.t : Int), .int .i64 x4.kk, .int .i64 x4.w, .int .u32 (x4.j : Int)] 48 (0, 0)) by rw [hu]; exact setRow_heap (v4.alloc (.cells #[.int .u8 0, .int .u32 0, .int .u8 0, .int .u8 0, .int .i64 0, .int .i64 0, .int .u32 0] 48)) v4.heap.size _ _ 48 _ HS4.out)
  have hsu4 : v4.heap.size + 1 ≤ u4_.heap.size := by rw [hu]; simp
  have HB_u4_ := hid (HB_u3_.out.trans ((hb.mono (by omega)).trans (h12.mono (by omega))))
  have HP_u4_ := hid ((HP_u3_.out.below hb).below h12)
  have HD_u4_ := hid ((HD_u3_.out.below hb).below h12)
  have HOW_u4_ := hid ((HOW_u3_.out.below hb).below h12)
  have HRD1_u4_ := hid ((HRD1_u3_.out.below hb).below h12)
  have HRD2_u4_ := hid ((HRD2_u3_.out.below hb).below h12)
  have HT1_u4_ := hid ((h12.block v1.heap.size (by omega)).trans ((hb.block v1.heap.size (by omega)).trans HT1_u3_.out))
  have HT2_u4_ := hid ((h12.block v2.heap.size (by omega)).trans ((hb.block v2.heap.size (by omega)).trans HT2_u3_.out))
  have HT3_u4_ := hid ((h12.block v3.heap.size (by omega)).trans ((hb.block v3.heap.size (by omega)).trans HT3_u3_.out))
  obtain ⟨q1, q2⟩ := Note.Ans.unique Note.Q.inj hans HAN3.out
  have HW4 := hid hu
  clear hu h12 hb hans
  have HX4 := hid q1
  have HQ4 := hid q2
  clear q1 q2
  go_wp2_with (first | (refine store_st rfl 48 (.tmp 10) (.tmp 53) rfl v4.heap.size #[.int .u8 (x4.cl : Int), .int .u32 (x4.s : Int), .int .u8 (x4.k : Int), .int .u8 (x4.t : Int), .int .i64 x4.kk, .int .i64 x4.w, .int .u32 (x4.j : Int)] rfl rfl #[.int .u8 0, .int .u32 0, .int .u8 0, .int .u8 0, .int .i64 0, .int .i64 0, .int .u32 0] 7 HS4.out size_request rfl rfl (by simp [Value.oneCell']) ?_) | fail)
  rw [← HW4.out]
  refine (readreply_any (.slice (some ⟨g, 0, none⟩) K c) l u4_ HP_u4_.out HPL.out).mono ?_
  rintro e v5 ⟨x5, e5, rfl, hans, _, hb⟩
  have HAN5 := hid hans
  have hsv5 := hb.size
  have HS5 := hid (heap_alloc_new v5 (.cells #[.int .u8 0, .int .u32 0, .int .i64 0, .int .u32 0, .int .u8 0, .int .i64 0] 54))
  obtain ⟨u5_, hu⟩ : ∃ u, u = (v5.alloc (.cells #[.int .u8 0, .int .u32 0, .int .i64 0, .int .u32 0, .int .u8 0, .int .i64 0] 54)).setRow v5.heap.size #[.int .u8 (x5.cl : Int), .int .u32 (x5.s : Int), .int .i64 x5.e, .int .u32 (x5.j : Int), .int .u8 (x5.st : Int), .int .i64 x5.c] := ⟨_, rfl⟩
  have h12 : Below v5.heap.size v5 u5_ := by rw [hu]; exact ((Below.refl _ _).alloc (Nat.le_refl _) _).trans (setRow_below _ (Nat.le_refl _))
  have HT5_u5_ := hid (show u5_.heap[v5.heap.size]? = some (.cells #[.int .u8 (x5.cl : Int), .int .u32 (x5.s : Int), .int .i64 x5.e, .int .u32 (x5.j : Int), .int .u8 (x5.st : Int), .int .i64 x5.c] 54 (0, 0)) by rw [hu]; exact setRow_heap (v5.alloc (.cells #[.int .u8 0, .int .u32 0, .int .i64 0, .int .u32 0, .int .u8 0, .int .i64 0] 54)) v5.heap.size _ _ 54 _ HS5.out)
  have hsu5 : v5.heap.size + 1 ≤ u5_.heap.size := by rw [hu]; simp
  have HB_u5_ := hid (HB_u4_.out.trans ((hb.mono (by omega)).trans (h12.mono (by omega))))
  have HP_u5_ := hid ((HP_u4_.out.below hb).below h12)
  have HD_u5_ := hid ((HD_u4_.out.below hb).below h12)
  have HOW_u5_ := hid ((HOW_u4_.out.below hb).below h12)
  have HRD1_u5_ := hid ((HRD1_u4_.out.below hb).below h12)
  have HRD2_u5_ := hid ((HRD2_u4_.out.below hb).below h12)
  have HT1_u5_ := hid ((h12.block v1.heap.size (by omega)).trans ((hb.block v1.heap.size (by omega)).trans HT1_u4_.out))
  have HT2_u5_ := hid ((h12.block v2.heap.size (by omega)).trans ((hb.block v2.heap.size (by omega)).trans HT2_u4_.out))
  have HT3_u5_ := hid ((h12.block v3.heap.size (by omega)).trans ((hb.block v3.heap.size (by omega)).trans HT3_u4_.out))
  have HT4_u5_ := hid ((h12.block v4.heap.size (by omega)).trans ((hb.block v4.heap.size (by omega)).trans HT4_u4_.out))
  have HW5 := hid hu
  clear hu h12 hb hans
  go_wp2_with (first | (refine store_st rfl 54 (.tmp 12) (.tmp 58) rfl v5.heap.size #[.int .u8 (x5.cl : Int), .int .u32 (x5.s : Int), .int .i64 x5.e, .int .u32 (x5.j : Int), .int .u8 (x5.st : Int), .int .i64 x5.c] rfl rfl #[.int .u8 0, .int .u32 0, .int .i64 0, .int .u32 0, .int .u8 0, .int .i64 0] 6 HS5.out size_reply rfl rfl (by simp [Value.oneCell']) ?_) | fail)
  rw [← HW5.out]
  refine (refreply_read (.slice A K C) l u5_ HD_u5_.out HPL.out).mono ?_
  rintro e v6 ⟨x6, e6, rfl, hans, _, hb⟩
  have HAN6 := hid hans
  have hsv6 := hb.size
  have HS6 := hid (heap_alloc_new v6 (.cells #[.int .u8 0, .int .u32 0, .int .i64 0, .int .u32 0, .int .u8 0, .int .i64 0] 54))
  obtain ⟨u6_, hu⟩ : ∃ u, u = (v6.alloc (.cells #[.int .u8 0, .int .u32 0, .int .i64 0, .int .u32 0, .int .u8 0, .int .i64 0] 54)).setRow v6.heap.size #[.int .u8 (x6.cl : Int), .int .u32 (x6.s : Int), .int .i64 x6.e, .int .u32 (x6.j : Int), .int .u8 (x6.st : Int), .int .i64 x6.c] := ⟨_, rfl⟩
  have h12 : Below v6.heap.size v6 u6_ := by rw [hu]; exact ((Below.refl _ _).alloc (Nat.le_refl _) _).trans (setRow_below _ (Nat.le_refl _))
  have HT6_u6_ := hid (show u6_.heap[v6.heap.size]? = some (.cells #[.int .u8 (x6.cl : Int), .int .u32 (x6.s : Int), .int .i64 x6.e, .int .u32 (x6.j : Int), .int .u8 (x6.st : Int), .int .i64 x6.c] 54 (0, 0)) by rw [hu]; exact setRow_heap (v6.alloc (.cells #[.int .u8 0, .int .u32 0, .int .i64 0, .int .u32 0, .int .u8 0, .int .i64 0] 54)) v6.heap.size _ _ 54 _ HS6.out)
  have hsu6 : v6.heap.size + 1 ≤ u6_.heap.size := by rw [hu]; simp
  have HB_u6_ := hid (HB_u5_.out.trans ((hb.mono (by omega)).trans (h12.mono (by omega))))
  have HP_u6_ := hid ((HP_u5_.out.below hb).below h12)
  have HD_u6_ := hid ((HD_u5_.out.below hb).below h12)
  have HOW_u6_ := hid ((HOW_u5_.out.below hb).below h12)
  have HRD1_u6_ := hid ((HRD1_u5_.out.below hb).below h12)
  have HRD2_u6_ := hid ((HRD2_u5_.out.below hb).below h12)
  have HT1_u6_ := hid ((h12.block v1.heap.size (by omega)).trans ((hb.block v1.heap.size (by omega)).trans HT1_u5_.out))
  have HT2_u6_ := hid ((h12.block v2.heap.size (by omega)).trans ((hb.block v2.heap.size (by omega)).trans HT2_u5_.out))
  have HT3_u6_ := hid ((h12.block v3.heap.size (by omega)).trans ((hb.block v3.heap.size (by omega)).trans HT3_u5_.out))
  have HT4_u6_ := hid ((h12.block v4.heap.size (by omega)).trans ((hb.block v4.heap.size (by omega)).trans HT4_u5_.out))
  have HT5_u6_ := hid ((h12.block v5.heap.size (by omega)).trans ((hb.block v5.heap.size (by omega)).trans HT5_u5_.out))
  obtain ⟨q1, q2⟩ := Note.Ans.unique Note.R.inj hans HAN5.out
  have HW6 := hid hu
  clear hu h12 hb hans
  have HX6 := hid q1
  have HQ6 := hid q2
  clear q1 q2
  go_wp2_with (first | (refine store_st rfl 54 (.tmp 14) (.tmp 63) rfl v6.heap.size #[.int .u8 (x6.cl : Int), .int .u32 (x6.s : Int), .int .i64 x6.e, .int .u32 (x6.j : Int), .int .u8 (x6.st : Int), .int .i64 x6.c] rfl rfl #[.int .u8 0, .int .u32 0, .int .i64 0, .int .u32 0, .int .u8 0, .int .i64 0] 6 HS6.out size_reply rfl rfl (by simp [Value.oneCell']) ?_) | fail)
  rw [← HW6.out]
  refine (readpacket_any (.slice (some ⟨g, 0, none⟩) K c) l u6_ HP_u6_.out HPL.out).mono ?_
  rintro e v7 ⟨x7, bv7, e7, rfl, hans, _, hob, hb⟩
  have HAN7 := hid hans
  have hsv7 := hb.size
  obtain ⟨ba7, bc7, hbv, _⟩ := hob.rd
  obtain ⟨bl7, hbl⟩ : ∃ n, n = x7.b.length := ⟨_, rfl⟩
  rw [← hbl] at hbv
  subst hbv
  have HBL7 := hid hbl
  have HRD7_v7 := hid (show Rd v7 (.slice ba7 bl7 bc7) x7.b from hob.rd)
  clear hob hbl
  have HS7 := hid (heap_alloc_new v7 (.cells #[.int .u8 0, .int .u32 0, .int .u32 0, .int .u32 0, .int .u32 0, .bool false, .slice none 0 0] 38))
  obtain ⟨u7_, hu⟩ : ∃ u, u = (v7.alloc (.cells #[.int .u8 0, .int .u32 0, .int .u32 0, .int .u32 0, .int .u32 0, .bool false, .slice none 0 0] 38)).setRow v7.heap.size #[.int .u8 (x7.n : Int), .int .u32 (x7.e : Int), .int .u32 (x7.l : Int), .int .u32 (x7.s : Int), .int .u32 (x7.a : Int), .bool x7.p, .slice ba7 bl7 bc7] := ⟨_, rfl⟩
  have h12 : Below v7.heap.size v7 u7_ := by rw [hu]; exact ((Below.refl _ _).alloc (Nat.le_refl _) _).trans (setRow_below _ (Nat.le_refl _))
  have HT7_u7_ := hid (show u7_.heap[v7.heap.size]? = some (.cells #[.int .u8 (x7.n : Int), .int .u32 (x7.e : Int), .int .u32 (x7.l : Int), .int .u32 (x7.s : Int), .int .u32 (x7.a : Int), .bool x7.p, .slice ba7 bl7 bc7] 38 (0, 0)) by rw [hu]; exact setRow_heap (v7.alloc (.cells #[.int .u8 0, .int .u32 0, .int .u32 0, .int .u32 0, .int .u32 0, .bool false, .slice none 0 0] 38)) v7.heap.size _ _ 38 _ HS7.out)
  have hsu7 : v7.heap.size + 1 ≤ u7_.heap.size := by rw [hu]; simp
  have HB_u7_ := hid (HB_u6_.out.trans ((hb.mono (by omega)).trans (h12.mono (by omega))))
  have HRD7_u7_ := hid (HRD7_v7.out.below h12)
  have HP_u7_ := hid ((HP_u6_.out.below hb).below h12)
  have HD_u7_ := hid ((HD_u6_.out.below hb).below h12)
  have HOW_u7_ := hid ((HOW_u6_.out.below hb).below h12)
  have HRD1_u7_ := hid ((HRD1_u6_.out.below hb).below h12)
  have HRD2_u7_ := hid ((HRD2_u6_.out.below hb).below h12)
  have HT1_u7_ := hid ((h12.block v1.heap.size (by omega)).trans ((hb.block v1.heap.size (by omega)).trans HT1_u6_.out))
  have HT2_u7_ := hid ((h12.block v2.heap.size (by omega)).trans ((hb.block v2.heap.size (by omega)).trans HT2_u6_.out))
  have HT3_u7_ := hid ((h12.block v3.heap.size (by omega)).trans ((hb.block v3.heap.size (by omega)).trans HT3_u6_.out))
  have HT4_u7_ := hid ((h12.block v4.heap.size (by omega)).trans ((hb.block v4.heap.size (by omega)).trans HT4_u6_.out))
  have HT5_u7_ := hid ((h12.block v5.heap.size (by omega)).trans ((hb.block v5.heap.size (by omega)).trans HT5_u6_.out))
  have HT6_u7_ := hid ((h12.block v6.heap.size (by omega)).trans ((hb.block v6.heap.size (by omega)).trans HT6_u6_.out))
  have HW7 := hid hu
  clear hu h12 hb hans
  go_wp2_with (first | (refine store_st rfl 38 (.tmp 16) (.tmp 68) rfl v7.heap.size #[.int .u8 (x7.n : Int), .int .u32 (x7.e : Int), .int .u32 (x7.l : Int), .int .u32 (x7.s : Int), .int .u32 (x7.a : Int), .bool x7.p, .slice ba7 bl7 bc7] rfl rfl #[.int .u8 0, .int .u32 0, .int .u32 0, .int .u32 0, .int .u32 0, .bool false, .slice none 0 0] 7 HS7.out size_packet rfl rfl (by simp [Value.oneCell']) ?_) | fail)
  rw [← HW7.out]
  refine (refpacket_read (.slice A K C) l u7_ HD_u7_.out HPL.out).mono ?_
  rintro e v8 ⟨x8, bv8, e8, rfl, hans, _, hob, hb⟩
  have HAN8 := hid hans
  have hsv8 := hb.size
  obtain ⟨ba8, bc8, hbv, _⟩ := hob.rd
  obtain ⟨bl8, hbl⟩ : ∃ n, n = x8.b.length := ⟨_, rfl⟩
  rw [← hbl] at hbv
  subst hbv
  have HBL8 := hid hbl
  have HRD8_v8 := hid (show Rd v8 (.slice ba8 bl8 bc8) x8.b from hob.rd)
  clear hob hbl
  have HS8 := hid (heap_alloc_new v8 (.cells #[.int .u8 0, .int .u32 0, .int .u32 0, .int .u32 0, .int .u32 0, .bool false, .slice none 0 0] 38))
  obtain ⟨u8_, hu⟩ : ∃ u, u = (v8.alloc (.cells #[.int .u8 0, .int .u32 0, .int .u32 0, .int .u32 0, .int .u32 0, .bool false, .slice none 0 0] 38)).setRow v8.heap.size #[.int .u8 (x8.n : Int), .int .u32 (x8.e : Int), .int .u32 (x8.l : Int), .int .u32 (x8.s : Int), .int .u32 (x8.a : Int), .bool x8.p, .slice ba8 bl8 bc8] := ⟨_, rfl⟩
  have h12 : Below v8.heap.size v8 u8_ := by rw [hu]; exact ((Below.refl _ _).alloc (Nat.le_refl _) _).trans (setRow_below _ (Nat.le_refl _))
  have HT8_u8_ := hid (show u8_.heap[v8.heap.size]? = some (.cells #[.int .u8 (x8.n : Int), .int .u32 (x8.e : Int), .int .u32 (x8.l : Int), .int .u32 (x8.s : Int), .int .u32 (x8.a : Int), .bool x8.p, .slice ba8 bl8 bc8] 38 (0, 0)) by rw [hu]; exact setRow_heap (v8.alloc (.cells #[.int .u8 0, .int .u32 0, .int .u32 0, .int .u32 0, .int .u32 0, .bool false, .slice none 0 0] 38)) v8.heap.size _ _ 38 _ HS8.out)
  have hsu8 : v8.heap.size + 1 ≤ u8_.heap.size := by rw [hu]; simp
  have HB_u8_ := hid (HB_u7_.out.trans ((hb.mono (by omega)).trans (h12.mono (by omega))))
  have HRD8_u8_ := hid (HRD8_v8.out.below h12)
  have HP_u8_ := hid ((HP_u7_.out.below hb).below h12)
  have HD_u8_ := hid ((HD_u7_.out.below hb).below h12)
  have HOW_u8_ := hid ((HOW_u7_.out.below hb).below h12)
  have HRD1_u8_ := hid ((HRD1_u7_.out.below hb).below h12)
  have HRD2_u8_ := hid ((HRD2_u7_.out.below hb).below h12)
  have HRD7_u8_ := hid ((HRD7_u7_.out.below hb).below h12)
  have HT1_u8_ := hid ((h12.block v1.heap.size (by omega)).trans ((hb.block v1.heap.size (by omega)).trans HT1_u7_.out))
  have HT2_u8_ := hid ((h12.block v2.heap.size (by omega)).trans ((hb.block v2.heap.size (by omega)).trans HT2_u7_.out))
  have HT3_u8_ := hid ((h12.block v3.heap.size (by omega)).trans ((hb.block v3.heap.size (by omega)).trans HT3_u7_.out))
  have HT4_u8_ := hid ((h12.block v4.heap.size (by omega)).trans ((hb.block v4.heap.size (by omega)).trans HT4_u7_.out))
  have HT5_u8_ := hid ((h12.block v5.heap.size (by omega)).trans ((hb.block v5.heap.size (by omega)).trans HT5_u7_.out))
  have HT6_u8_ := hid ((h12.block v6.heap.size (by omega)).trans ((hb.block v6.heap.size (by omega)).trans HT6_u7_.out))
  have HT7_u8_ := hid ((h12.block v7.heap.size (by omega)).trans ((hb.block v7.heap.size (by omega)).trans HT7_u7_.out))
  obtain ⟨q1, q2⟩ := Note.Ans.unique Note.P.inj hans HAN7.out
  have HW8 := hid hu
  clear hu h12 hb hans
  have HX8 := hid q1
  have HQ8 := hid q2
  clear q1 q2
  have r2 := HX2.out
  have s2 := HQ2.out
  subst r2 s2
  have r4 := HX4.out
  have s4 := HQ4.out
  subst r4 s4
  have r6 := HX6.out
  have s6 := HQ6.out
  subst r6 s6
  have r8 := HX8.out
  have s8 := HQ8.out
  subst r8 s8
  obtain rfl : bl1 = bl2 := HBL1.out.trans HBL2.out.symm
  obtain rfl : bl7 = bl8 := HBL7.out.trans HBL8.out.symm
  go_upto_region 13 with (first | (refine store_st rfl 38 (.tmp 18) (.tmp 73) rfl v8.heap.size #[.int .u8 (x8.n : Int), .int .u32 (x8.e : Int), .int .u32 (x8.l : Int), .int .u32 (x8.s : Int), .int .u32 (x8.a : Int), .bool x8.p, .slice ba8 bl7 bc8] rfl rfl #[.int .u8 0, .int .u32 0, .int .u32 0, .int .u32 0, .int .u32 0, .bool false, .slice none 0 0] 7 HS8.out size_packet rfl rfl (by simp [Value.oneCell']) ?_) | fail)
  rw [← HW8.out]
  go_wp2_with (first | (refine load_st rfl 25 (.tmp 4) rfl v1.heap.size rfl #[.int .u8 (x2.k : Int), .int .u8 (x2.n : Int), .int .u32 (x2.e : Int), .int .u32 (x2.l : Int), .int .u32 (x2.t : Int), .int .u32 (x2.g : Int), .int .u32 (x2.j : Int), .int .u32 (x2.v : Int), .int .u8 (x2.r : Int), .int .i64 x2.c, .int .u32 (x2.f : Int), .int .u32 (x2.o : Int), .slice ba1 bl1 bc1] _ 13 HT1_u8_.out Try.underlying25 size_note rfl ?_) | (refine load_st rfl 25 (.tmp 6) rfl v2.heap.size rfl #[.int .u8 (x2.k : Int), .int .u8 (x2.n : Int), .int .u32 (x2.e : Int), .int .u32 (x2.l : Int), .int .u32 (x2.t : Int), .int .u32 (x2.g : Int), .int .u32 (x2.j : Int), .int .u32 (x2.v : Int), .int .u8 (x2.r : Int), .int .i64 x2.c, .int .u32 (x2.f : Int), .int .u32 (x2.o : Int), .slice ba2 bl1 bc2] _ 13 HT2_u8_.out Try.underlying25 size_note rfl ?_) | fail)
  refine (samenote_eq x2 ba1 ba2 bc1 bc2 bl1 u8_ HRD1_u8_.out HRD2_u8_.out).mono ?_
  rintro e wk ⟨rfl, hbk⟩
  have hsk := hbk.size
  have HT3_k := hid ((hbk.block v3.heap.size (by omega)).trans HT3_u8_.out)
  have HT4_k := hid ((hbk.block v4.heap.size (by omega)).trans HT4_u8_.out)
  have HT5_k := hid ((hbk.block v5.heap.size (by omega)).trans HT5_u8_.out)
  have HT6_k := hid ((hbk.block v6.heap.size (by omega)).trans HT6_u8_.out)
  have HT7_k := hid ((hbk.block v7.heap.size (by omega)).trans HT7_u8_.out)
  have HT8_k := hid ((hbk.block v8.heap.size (by omega)).trans HT8_u8_.out)
  have HP_k := hid (HP_u8_.out.below hbk)
  have HD_k := hid (HD_u8_.out.below hbk)
  have HOW_k := hid (HOW_u8_.out.below hbk)
  have HRD7_k := hid (HRD7_u8_.out.below hbk)
  have HRD8_k := hid (HRD8_u8_.out.below hbk)
  have HB_k := hid (HB_u8_.out.trans (hbk.mono (by omega)))
  clear hbk
  have cc0 : wk.cell? ⟨v3.heap.size, 0, none⟩ = some (.int .u8 (x4.cl : Int)) := (cell_of_row _ _ _ _ _ _ HT3_k.out).trans rfl
  have cc1 : wk.cell? ⟨v3.heap.size, 1, none⟩ = some (.int .u32 (x4.s : Int)) := (cell_of_row _ _ _ _ _ _ HT3_k.out).trans rfl
  have cc2 : wk.cell? ⟨v3.heap.size, 2, none⟩ = some (.int .u8 (x4.k : Int)) := (cell_of_row _ _ _ _ _ _ HT3_k.out).trans rfl
  have cc3 : wk.cell? ⟨v3.heap.size, 3, none⟩ = some (.int .u8 (x4.t : Int)) := (cell_of_row _ _ _ _ _ _ HT3_k.out).trans rfl
  have cc4 : wk.cell? ⟨v3.heap.size, 4, none⟩ = some (.int .i64 x4.kk) := (cell_of_row _ _ _ _ _ _ HT3_k.out).trans rfl
  have cc5 : wk.cell? ⟨v3.heap.size, 5, none⟩ = some (.int .i64 x4.w) := (cell_of_row _ _ _ _ _ _ HT3_k.out).trans rfl
  have cc6 : wk.cell? ⟨v3.heap.size, 6, none⟩ = some (.int .u32 (x4.j : Int)) := (cell_of_row _ _ _ _ _ _ HT3_k.out).trans rfl
  have cd0 : wk.cell? ⟨v4.heap.size, 0, none⟩ = some (.int .u8 (x4.cl : Int)) := (cell_of_row _ _ _ _ _ _ HT4_k.out).trans rfl
  have cd1 : wk.cell? ⟨v4.heap.size, 1, none⟩ = some (.int .u32 (x4.s : Int)) := (cell_of_row _ _ _ _ _ _ HT4_k.out).trans rfl
  have cd2 : wk.cell? ⟨v4.heap.size, 2, none⟩ = some (.int .u8 (x4.k : Int)) := (cell_of_row _ _ _ _ _ _ HT4_k.out).trans rfl
  have cd3 : wk.cell? ⟨v4.heap.size, 3, none⟩ = some (.int .u8 (x4.t : Int)) := (cell_of_row _ _ _ _ _ _ HT4_k.out).trans rfl
  have cd4 : wk.cell? ⟨v4.heap.size, 4, none⟩ = some (.int .i64 x4.kk) := (cell_of_row _ _ _ _ _ _ HT4_k.out).trans rfl
  have cd5 : wk.cell? ⟨v4.heap.size, 5, none⟩ = some (.int .i64 x4.w) := (cell_of_row _ _ _ _ _ _ HT4_k.out).trans rfl
  have cd6 : wk.cell? ⟨v4.heap.size, 6, none⟩ = some (.int .u32 (x4.j : Int)) := (cell_of_row _ _ _ _ _ _ HT4_k.out).trans rfl
  have ce0 : wk.cell? ⟨v5.heap.size, 0, none⟩ = some (.int .u8 (x6.cl : Int)) := (cell_of_row _ _ _ _ _ _ HT5_k.out).trans rfl
  have ce1 : wk.cell? ⟨v5.heap.size, 1, none⟩ = some (.int .u32 (x6.s : Int)) := (cell_of_row _ _ _ _ _ _ HT5_k.out).trans rfl
  have ce2 : wk.cell? ⟨v5.heap.size, 2, none⟩ = some (.int .i64 x6.e) := (cell_of_row _ _ _ _ _ _ HT5_k.out).trans rfl
  have ce3 : wk.cell? ⟨v5.heap.size, 3, none⟩ = some (.int .u32 (x6.j : Int)) := (cell_of_row _ _ _ _ _ _ HT5_k.out).trans rfl
  have ce4 : wk.cell? ⟨v5.heap.size, 4, none⟩ = some (.int .u8 (x6.st : Int)) := (cell_of_row _ _ _ _ _ _ HT5_k.out).trans rfl
  have ce5 : wk.cell? ⟨v5.heap.size, 5, none⟩ = some (.int .i64 x6.c) := (cell_of_row _ _ _ _ _ _ HT5_k.out).trans rfl
  have cf0 : wk.cell? ⟨v6.heap.size, 0, none⟩ = some (.int .u8 (x6.cl : Int)) := (cell_of_row _ _ _ _ _ _ HT6_k.out).trans rfl
  have cf1 : wk.cell? ⟨v6.heap.size, 1, none⟩ = some (.int .u32 (x6.s : Int)) := (cell_of_row _ _ _ _ _ _ HT6_k.out).trans rfl
  have cf2 : wk.cell? ⟨v6.heap.size, 2, none⟩ = some (.int .i64 x6.e) := (cell_of_row _ _ _ _ _ _ HT6_k.out).trans rfl
  have cf3 : wk.cell? ⟨v6.heap.size, 3, none⟩ = some (.int .u32 (x6.j : Int)) := (cell_of_row _ _ _ _ _ _ HT6_k.out).trans rfl
  have cf4 : wk.cell? ⟨v6.heap.size, 4, none⟩ = some (.int .u8 (x6.st : Int)) := (cell_of_row _ _ _ _ _ _ HT6_k.out).trans rfl
  have cf5 : wk.cell? ⟨v6.heap.size, 5, none⟩ = some (.int .i64 x6.c) := (cell_of_row _ _ _ _ _ _ HT6_k.out).trans rfl
  have cg0 : wk.cell? ⟨v7.heap.size, 0, none⟩ = some (.int .u8 (x8.n : Int)) := (cell_of_row _ _ _ _ _ _ HT7_k.out).trans rfl
  have cg1 : wk.cell? ⟨v7.heap.size, 1, none⟩ = some (.int .u32 (x8.e : Int)) := (cell_of_row _ _ _ _ _ _ HT7_k.out).trans rfl
  have cg2 : wk.cell? ⟨v7.heap.size, 2, none⟩ = some (.int .u32 (x8.l : Int)) := (cell_of_row _ _ _ _ _ _ HT7_k.out).trans rfl
  have cg3 : wk.cell? ⟨v7.heap.size, 3, none⟩ = some (.int .u32 (x8.s : Int)) := (cell_of_row _ _ _ _ _ _ HT7_k.out).trans rfl
  have cg4 : wk.cell? ⟨v7.heap.size, 4, none⟩ = some (.int .u32 (x8.a : Int)) := (cell_of_row _ _ _ _ _ _ HT7_k.out).trans rfl
  have cg5 : wk.cell? ⟨v7.heap.size, 5, none⟩ = some (.bool x8.p) := (cell_of_row _ _ _ _ _ _ HT7_k.out).trans rfl
  have cg6 : wk.cell? ⟨v7.heap.size, 6, none⟩ = some (.slice ba7 bl7 bc7) := (cell_of_row _ _ _ _ _ _ HT7_k.out).trans rfl
  have ch0 : wk.cell? ⟨v8.heap.size, 0, none⟩ = some (.int .u8 (x8.n : Int)) := (cell_of_row _ _ _ _ _ _ HT8_k.out).trans rfl
  have ch1 : wk.cell? ⟨v8.heap.size, 1, none⟩ = some (.int .u32 (x8.e : Int)) := (cell_of_row _ _ _ _ _ _ HT8_k.out).trans rfl
  have ch2 : wk.cell? ⟨v8.heap.size, 2, none⟩ = some (.int .u32 (x8.l : Int)) := (cell_of_row _ _ _ _ _ _ HT8_k.out).trans rfl
  have ch3 : wk.cell? ⟨v8.heap.size, 3, none⟩ = some (.int .u32 (x8.s : Int)) := (cell_of_row _ _ _ _ _ _ HT8_k.out).trans rfl
  have ch4 : wk.cell? ⟨v8.heap.size, 4, none⟩ = some (.int .u32 (x8.a : Int)) := (cell_of_row _ _ _ _ _ _ HT8_k.out).trans rfl
  have ch5 : wk.cell? ⟨v8.heap.size, 5, none⟩ = some (.bool x8.p) := (cell_of_row _ _ _ _ _ _ HT8_k.out).trans rfl
  have ch6 : wk.cell? ⟨v8.heap.size, 6, none⟩ = some (.slice ba8 bl7 bc8) := (cell_of_row _ _ _ _ _ _ HT8_k.out).trans rfl
  go_wp2_with fail
  refine (samepacket_eq x8 ba7 ba8 bc7 bc8 bl7 wk HRD7_k.out HRD8_k.out).mono ?_
  rintro e wm ⟨rfl, hbm⟩
  have HPm := hid (HP_k.out.below hbm)
  have HDm := hid (HD_k.out.below hbm)
  have HOm := hid (HOW_k.out.below hbm)
  have HBm := hid (HB_k.out.trans (hbm.mono HB_k.out.size))
  clear hbm cc0 cc1 cc2 cc3 cc4 cc5 cc6 cd0 cd1 cd2 cd3 cd4 cd5 cd6 ce0 ce1 ce2 ce3 ce4 ce5 cf0 cf1 cf2 cf3 cf4 cf5 cg0 cg1 cg2 cg3 cg4 cg5 cg6 ch0 ch1 ch2 ch3 ch4 ch5 ch6
  go_wp2_with fail
  refine (same_eq _ _ l wm HPm.out HDm.out).mono ?_
  rintro e w' ⟨rfl, rfl⟩
  have hcell : wm.cell? ⟨g, K, none⟩ = some (.int .u8 165) := by
    have h0 := HOm.out.cell K (by have := HLL.out; simp <;> omega)
    rw [h0]
    have e1 : (l ++ [165]).getD K 0 = (165 : UInt8) := by
      rw [HLL.out.1, List.getD_eq_getElem?_getD, List.getElem?_append_right (Nat.le_refl _)]
      simp
    rw [e1]
    rfl
  go_wp2
  go_ret
  exact ⟨rfl, HBm.out⟩

set_option maxRecDepth 100000 in
set_option maxHeartbeats 8000000 in
theorem nrs_many (A : Option Addr) (C : Nat) (L0 : Nat) (hn : 400 < L0) (l : List UInt8) (w : World) (hC : C ≤ 9223372036854775807) (hKC : L0 ≤ C) (hl : 400 = l.length) (hrd : Rd w (.slice A 400 C) l) :
    Calls Try.prog 5 #[.slice A L0 C] w fun e w' => e = .returned (.bool true) ∧ Below w.heap.size w w' := by
  have HRD := hid hrd
  have HLL := hid (show 400 = l.length ∧ l.length ≤ 400 from ⟨hl, by omega⟩)
  have HPL := hid (show l.length ≤ 100000 by omega)
  have hn1 : (400 : Int) < (L0 : Int) := by omega
  clear hrd hl
  go_enter Try.func5, Try.ntmps5
  go_wp2_with fail
  refine (awake4_any _).mono ?_
  rintro e wa ⟨rfl, hba⟩
  have HBA := hid hba
  have hsa := hba.size
  clear hba
  have HR0 := hid ((HRD.out.below HBA.out).alloc (.cells #[] 5))
  have HO0 := hid (Own.empty wa w.heap.size hsa)
  have HB0 := hid (HBA.out.alloc hsa (.cells #[] 5))
  go_wp2_with (first | (at_builtin; (refine appk rfl (.tmp 27) (.tmp 28) rfl w.heap.size (.slice (some ⟨wa.heap.size, 0, none⟩) 0 0) _ [] l l 400 rfl rfl HO0.out HR0.out (by have := HLL.out; simp <;> omega) rfl (by have := HLL.out; simp <;> omega) (by simp; omega) ?_); intro ad1 cp1 w1 ho1 hg1; have HO1 := hid (ho1.alloc (.cells #[.int .u8 165] 5)); have HB1 := hid ((HO0.out.grown HB0.out hg1 (Nat.le_refl _) (by simp; omega)).alloc (HO0.out.grown HB0.out hg1 (Nat.le_refl _) (by simp; omega)).size (.cells #[.int .u8 165] 5)); clear ho1 hg1) | (at_builtin; go_must (refine app1 rfl (.tmp 29) (.tmp 30) rfl w.heap.size (.slice ad1 400 cp1) (.slice (some ⟨w1.heap.size, 0, none⟩) 1 1) l [165] 401 rfl rfl HO1.out (Rd.one w1 165 165 rfl) (by have := HLL.out; simp <;> omega) (by simp) (by have := HLL.out; simp <;> omega) HB1.out.size ?_); intro g c u0_ ho2 hg2 hc1 hc2 hwg; have HOW_u0_ := hid ho2; have HB_u0_ := hid (HO1.out.grown HB1.out hg2 (Nat.le_refl _) HB1.out.size); have HP_u0_ := hid (show Rd u0_ (.slice (some ⟨g, 0, none⟩) 400 c) l by have := ho2.front; rwa [show l.length = 400 from HLL.out.1.symm] at this); have hs0 := HB_u0_.out.size; have HD_u0_ := hid (HRD.out.below HB_u0_.out); clear ho2 hg2 hwg) | fail)
  refine (readnote_any (.slice (some ⟨g, 0, none⟩) 400 c) l u0_ HP_u0_.out HPL.out).mono ?_
  rintro e v1 ⟨x1, bv1, e1, rfl, hans, _, hob, hb⟩
  have HAN1 := hid hans
  have hsv1 := hb.size
  obtain ⟨ba1, bc1, hbv, _⟩ := hob.rd
  obtain ⟨bl1, hbl⟩ : ∃ n, n = x1.b.length := ⟨_, rfl⟩
  rw [← hbl] at hbv
  subst hbv
  have HBL1 := hid hbl
  have HRD1_v1 := hid (show Rd v1 (.slice ba1 bl1 bc1) x1.b from hob.rd)
  clear hob hbl
  have HS1 := hid (heap_alloc_new v1 (.cells #[.int .u8 0, .int .u8 0, .int .u32 0, .int .u32 0, .int .u32 0, .int .u32 0, .int .u32 0, .int .u32 0, .int .u8 0, .int .i64 0, .int .u32 0, .int .u32 0, .slice none 0 0] 25))
  obtain ⟨u1_, hu⟩ : ∃ u, u = (v1.alloc (.cells #[.int .u8 0, .int .u8 0, .int .u32 0, .int .u32 0, .int .u32 0, .int .u32 0, .int .u32 0, .int .u32 0, .int .u8 0, .int .i64 0, .int .u32 0, .int .u32 0, .slice none 0 0] 25)).setRow v1.heap.size #[.int .u8 (x1.k : Int), .int .u8 (x1.n : Int), .int .u32 (x1.e : Int), .int .u32 (x1.l : Int), .int .u32 (x1.t : Int), .int .u32 (x1.g : Int), .int .u32 (x1.j : Int), .int .u32 (x1.v : Int), .int .u8 (x1.r : Int), .int .i64 x1.c, .int .u32 (x1.f : Int), .int .u32 (x1.o : Int), .slice ba1 bl1 bc1] := ⟨_, rfl⟩
  have h12 : Below v1.heap.size v1 u1_ := by rw [hu]; exact ((Below.refl _ _).alloc (Nat.le_refl _) _).trans (setRow_below _ (Nat.le_refl _))
  have HT1_u1_ := hid (show u1_.heap[v1.heap.size]? = some (.cells #[.int .u8 (x1.k : Int), .int .u8 (x1.n : Int), .int .u32 (x1.e : Int), .int .u32 (x1.l : Int), .int .u32 (x1.t : Int), .int .u32 (x1.g : Int), .int .u32 (x1.j : Int), .int .u32 (x1.v : Int), .int .u8 (x1.r : Int), .int .i64 x1.c, .int .u32 (x1.f : Int), .int .u32 (x1.o : Int), .slice ba1 bl1 bc1] 25 (0, 0)) by rw [hu]; exact setRow_heap (v1.alloc (.cells #[.int .u8 0, .int .u8 0, .int .u32 0, .int .u32 0, .int .u32 0, .int .u32 0, .int .u32 0, .int .u32 0, .int .u8 0, .int .i64 0, .int .u32 0, .int .u32 0, .slice none 0 0] 25)) v1.heap.size _ _ 25 _ HS1.out)
  have hsu1 : v1.heap.size + 1 ≤ u1_.heap.size := by rw [hu]; simp
  have HB_u1_ := hid (HB_u0_.out.trans ((hb.mono (by omega)).trans (h12.mono (by omega))))
  have HRD1_u1_ := hid (HRD1_v1.out.below h12)
  have HP_u1_ := hid ((HP_u0_.out.below hb).below h12)
  have HD_u1_ := hid ((HD_u0_.out.below hb).below h12)
  have HOW_u1_ := hid ((HOW_u0_.out.below hb).below h12)
  have HW1 := hid hu
  clear hu h12 hb hans
  go_wp2_with (first | (refine store_st rfl 25 (.tmp 4) (.tmp 38) rfl v1.heap.size #[.int .u8 (x1.k : Int), .int .u8 (x1.n : Int), .int .u32 (x1.e : Int), .int .u32 (x1.l : Int), .int .u32 (x1.t : Int), .int .u32 (x1.g : Int), .int .u32 (x1.j : Int), .int .u32 (x1.v : Int), .int .u8 (x1.r : Int), .int .i64 x1.c, .int .u32 (x1.f : Int), .int .u32 (x1.o : Int), .slice ba1 bl1 bc1] rfl rfl #[.int .u8 0, .int .u8 0, .int .u32 0, .int .u32 0, .int .u32 0, .int .u32 0, .int .u32 0, .int .u32 0, .int .u8 0, .int .i64 0, .int .u32 0, .int .u32 0, .slice none 0 0] 13 HS1.out size_note rfl rfl (by simp [Value.oneCell']) ?_) | fail)
  rw [← HW1.out]
  refine (refnote_read (.slice A 400 C) l u1_ HD_u1_.out HPL.out).mono ?_
  rintro e v2 ⟨x2, bv2, e2, rfl, hans, _, hob, hb⟩
  have HAN2 := hid hans
  have hsv2 := hb.size
  obtain ⟨ba2, bc2, hbv, _⟩ := hob.rd
  obtain ⟨bl2, hbl⟩ : ∃ n, n = x2.b.length := ⟨_, rfl⟩
  rw [← hbl] at hbv
  subst hbv
  have HBL2 := hid hbl
  have HRD2_v2 := hid (show Rd v2 (.slice ba2 bl2 bc2) x2.b from hob.rd)
  clear hob hbl
  have HS2 := hid (heap_alloc_new v2 (.cells #[.int .u8 0, .int .u8 0, .int .u32 0, .int .u32 0, .int .u32 0, .int .u32 0, .int .u32 0, .int .u32 0, .int .u8 0, .int .i64 0, .int .u32 0, .int .u32 0, .slice none 0 0] 25))
  obtain ⟨u2_, hu⟩ : ∃ u, u = (v2.alloc (.cells #[.int .u8 0, .int .u8 0, .int .u32 0, .int .u32 0, .int .u32 0, .int .u32 0, .int .u32 0, .int .u32 0, .int .u8 0, .int .i64 0, .int .u32 0, .int .u32 0, .slice none 0 0] 25)).setRow v2.heap.size #[.int .u8 (x2.k : Int), .int .u8 (x2.n : Int), .int .u32 (x2.e : Int), .int .u32 (x2.l : Int), .int .u32 (x2.t : Int), .int .u32 (x2.g : Int), .int .u32 (x2.j : Int), .int .u32 (x2.v : Int), .int .u8 (x2.r : Int), .int .i64 x2.c, .int .u32 (x2.f : Int), .int .u32 (x2.o : Int), .slice ba2 bl2 bc2] := ⟨_, rfl⟩
  have h12 : Below v2.heap.size v2 u2_ := by rw [hu]; exact ((Below.refl _ _).alloc (Nat.le_refl _) _).trans (setRow_below _ (Nat.le_refl _))
  have HT2_u2_ := hid (show u2_.heap[v2.heap.size]? = some (.cells #[.int .u8 (x2.k : Int), .int .u8 (x2.n : Int), .int .u32 (x2.e : Int), .int .u32 (x2.l : Int), .int .u32 (x2.t : Int), .int .u32 (x2.g : Int), .int .u32 (x2.j : Int), .int .u32 (x2.v : Int), .int .u8 (x2.r : Int), .int .i64 x2.c, .int .u32 (x2.f : Int), .int .u32 (x2.o : Int), .slice ba2 bl2 bc2] 25 (0, 0)) by rw [hu]; exact setRow_heap (v2.alloc (.cells #[.int .u8 0, .int .u8 0, .int .u32 0, .int .u32 0, .int .u32 0, .int .u32 0, .int .u32 0, .int .u32 0, .int .u8 0, .int .i64 0, .int .u32 0, .int .u32 0, .slice none 0 0] 25)) v2.heap.size _ _ 25 _ HS2.out)
  have hsu2 : v2.heap.size + 1 ≤ u2_.heap.size := by rw [hu]; simp
  have HB_u2_ := hid (HB_u1_.out.trans ((hb.mono (by omega)).trans (h12.mono (by omega))))
  have HRD2_u2_ := hid (HRD2_v2.out.below h12)
  have HP_u2_ := hid ((HP_u1_.out.below hb).below h12)
  have HD_u2_ := hid ((HD_u1_.out.below hb).below h12)
  have HOW_u2_ := hid ((HOW_u1_.out.below hb).below h12)
  have HRD1_u2_ := hid ((HRD1_u1_.out.below hb).below h12)
  have HT1_u2_ := hid ((h12.block v1.heap.size (by omega)).trans ((hb.block v1.heap.size (by omega)).trans HT1_u1_.out))
  obtain ⟨q1, q2⟩ := Note.Ans.unique Note.N.inj hans HAN1.out
  have HW2 := hid hu
  clear hu h12 hb hans
  have HX2 := hid q1
  have HQ2 := hid q2
  clear q1 q2
  go_wp2_with (first | (refine store_st rfl 25 (.tmp 6) (.tmp 43) rfl v2.heap.size #[.int .u8 (x2.k : Int), .int .u8 (x2.n : Int), .int .u32 (x2.e : Int), .int .u32 (x2.l : Int), .int .u32 (x2.t : Int), .int .u32 (x2.g : Int), .int .u32 (x2.j : Int), .int .u32 (x2.v : Int), .int .u8 (x2.r : Int), .int .i64 x2.c, .int .u32 (x2.f : Int), .int .u32 (x2.o : Int), .slice ba2 bl2 bc2] rfl rfl #[.int .u8 0, .int .u8 0, .int .u32 0, .int .u32 0, .int .u32 0, .int .u32 0, .int .u32 0, .int .u32 0, .int .u8 0, .int .i64 0, .int .u32 0, .int .u32 0, .slice none 0 0] 13 HS2.out size_note rfl rfl (by simp [Value.oneCell']) ?_) | fail)
  rw [← HW2.out]
  refine (readrequest_any (.slice (some ⟨g, 0, none⟩) 400 c) l u2_ HP_u2_.out HPL.out).mono ?_
  rintro e v3 ⟨x3, e3, rfl, hans, _, hb⟩
  have HAN3 := hid hans
  have hsv3 := hb.size
  have HS3 := hid (heap_alloc_new v3 (.cells #[.int .u8 0, .int .u32 0, .int .u8 0, .int .u8 0, .int .i64 0, .int .i64 0, .int .u32 0] 48))
  obtain ⟨u3_, hu⟩ : ∃ u, u = (v3.alloc (.cells #[.int .u8 0, .int .u32 0, .int .u8 0, .int .u8 0, .int .i64 0, .int .i64 0, .int .u32 0] 48)).setRow v3.heap.size #[.int .u8 (x3.cl : Int), .int .u32 (x3.s : Int), .int .u8 (x3.k : Int), .int .u8 (x3.t : Int), .int .i64 x3.kk, .int .i64 x3.w, .int .u32 (x3.j : Int)] := ⟨_, rfl⟩
  have h12 : Below v3.heap.size v3 u3_ := by rw [hu]; exact ((Below.refl _ _).alloc (Nat.le_refl _) _).trans (setRow_below _ (Nat.le_refl _))
  have HT3_u3_ := hid (show u3_.heap[v3.heap.size]? = some (.cells #[.int .u8 (x3.cl : Int), .int .u32 (x3.s : Int), .int .u8 (x3.k : Int), .int .u8 (x3.t : Int), .int .i64 x3.kk, .int .i64 x3.w, .int .u32 (x3.j : Int)] 48 (0, 0)) by rw [hu]; exact setRow_heap (v3.alloc (.cells #[.int .u8 0, .int .u32 0, .int .u8 0, .int .u8 0, .int .i64 0, .int .i64 0, .int .u32 0] 48)) v3.heap.size _ _ 48 _ HS3.out)
  have hsu3 : v3.heap.size + 1 ≤ u3_.heap.size := by rw [hu]; simp
  have HB_u3_ := hid (HB_u2_.out.trans ((hb.mono (by omega)).trans (h12.mono (by omega))))
  have HP_u3_ := hid ((HP_u2_.out.below hb).below h12)
  have HD_u3_ := hid ((HD_u2_.out.below hb).below h12)
  have HOW_u3_ := hid ((HOW_u2_.out.below hb).below h12)
  have HRD1_u3_ := hid ((HRD1_u2_.out.below hb).below h12)
  have HRD2_u3_ := hid ((HRD2_u2_.out.below hb).below h12)
  have HT1_u3_ := hid ((h12.block v1.heap.size (by omega)).trans ((hb.block v1.heap.size (by omega)).trans HT1_u2_.out))
  have HT2_u3_ := hid ((h12.block v2.heap.size (by omega)).trans ((hb.block v2.heap.size (by omega)).trans HT2_u2_.out))
  have HW3 := hid hu
  clear hu h12 hb hans
  go_wp2_with (first | (refine store_st rfl 48 (.tmp 8) (.tmp 48) rfl v3.heap.size #[.int .u8 (x3.cl : Int), .int .u32 (x3.s : Int), .int .u8 (x3.k : Int), .int .u8 (x3.t : Int), .int .i64 x3.kk, .int .i64 x3.w, .int .u32 (x3.j : Int)] rfl rfl #[.int .u8 0, .int .u32 0, .int .u8 0, .int .u8 0, .int .i64 0, .int .i64 0, .int .u32 0] 7 HS3.out size_request rfl rfl (by simp [Value.oneCell']) ?_) | fail)
  rw [← HW3.out]
  refine (refrequest_read (.slice A 400 C) l u3_ HD_u3_.out HPL.out).mono ?_
  rintro e v4 ⟨x4, e4, rfl, hans, _, hb⟩
  have HAN4 := hid hans
  have hsv4 := hb.size
  have HS4 := hid (heap_alloc_new v4 (.cells #[.int .u8 0, .int .u32 0, .int .u8 0, .int .u8 0, .int .i64 0, .int .i64 0, .int .u32 0] 48))
  obtain ⟨u4_, hu⟩ : ∃ u, u = (v4.alloc (.cells #[.int .u8 0, .int .u32 0, .int .u8 0, .int .u8 0, .int .i64 0, .int .i64 0, .int .u32 0] 48)).setRow v4.heap.size #[.int .u8 (x4.cl : Int), .int .u32 (x4.s : Int), .int .u8 (x4.k : Int), .int .u8 (x4.t : Int), .int .i64 x4.kk, .int .i64 x4.w, .int .u32 (x4.j : Int)] := ⟨_, rfl⟩
  have h12 : Below v4.heap.size v4 u4_ := by rw [hu]; exact ((Below.refl _ _).alloc (Nat.le_refl _) _).trans (setRow_below _ (Nat.le_refl _))
  have HT4_u4_ := hid (show u4_.heap[v4.heap.size]? = some (.cells #[.int .u8 (x4.cl : Int), .int .u32 (x4.s : Int), .int .u8 (x4.k : Int), .int .u8 (x4.t : Int), .int .i64 x4.kk, .int .i64 x4.w, .int .u32 (x4.j : Int)] 48 (0, 0)) by rw [hu]; exact setRow_heap (v4.alloc (.cells #[.int .u8 0, .int .u32 0, .int .u8 0, .int .u8 0, .int .i64 0, .int .i64 0, .int .u32 0] 48)) v4.heap.size _ _ 48 _ HS4.out)
  have hsu4 : v4.heap.size + 1 ≤ u4_.heap.size := by rw [hu]; simp
  have HB_u4_ := hid (HB_u3_.out.trans ((hb.mono (by omega)).trans (h12.mono (by omega))))
  have HP_u4_ := hid ((HP_u3_.out.below hb).below h12)
  have HD_u4_ := hid ((HD_u3_.out.below hb).below h12)
  have HOW_u4_ := hid ((HOW_u3_.out.below hb).below h12)
  have HRD1_u4_ := hid ((HRD1_u3_.out.below hb).below h12)
  have HRD2_u4_ := hid ((HRD2_u3_.out.below hb).below h12)
  have HT1_u4_ := hid ((h12.block v1.heap.size (by omega)).trans ((hb.block v1.heap.size (by omega)).trans HT1_u3_.out))
  have HT2_u4_ := hid ((h12.block v2.heap.size (by omega)).trans ((hb.block v2.heap.size (by omega)).trans HT2_u3_.out))
  have HT3_u4_ := hid ((h12.block v3.heap.size (by omega)).trans ((hb.block v3.heap.size (by omega)).trans HT3_u3_.out))
  obtain ⟨q1, q2⟩ := Note.Ans.unique Note.Q.inj hans HAN3.out
  have HW4 := hid hu
  clear hu h12 hb hans
  have HX4 := hid q1
  have HQ4 := hid q2
  clear q1 q2
  go_wp2_with (first | (refine store_st rfl 48 (.tmp 10) (.tmp 53) rfl v4.heap.size #[.int .u8 (x4.cl : Int), .int .u32 (x4.s : Int), .int .u8 (x4.k : Int), .int .u8 (x4.t : Int), .int .i64 x4.kk, .int .i64 x4.w, .int .u32 (x4.j : Int)] rfl rfl #[.int .u8 0, .int .u32 0, .int .u8 0, .int .u8 0, .int .i64 0, .int .i64 0, .int .u32 0] 7 HS4.out size_request rfl rfl (by simp [Value.oneCell']) ?_) | fail)
  rw [← HW4.out]
  refine (readreply_any (.slice (some ⟨g, 0, none⟩) 400 c) l u4_ HP_u4_.out HPL.out).mono ?_
  rintro e v5 ⟨x5, e5, rfl, hans, _, hb⟩
  have HAN5 := hid hans
  have hsv5 := hb.size
  have HS5 := hid (heap_alloc_new v5 (.cells #[.int .u8 0, .int .u32 0, .int .i64 0, .int .u32 0, .int .u8 0, .int .i64 0] 54))
  obtain ⟨u5_, hu⟩ : ∃ u, u = (v5.alloc (.cells #[.int .u8 0, .int .u32 0, .int .i64 0, .int .u32 0, .int .u8 0, .int .i64 0] 54)).setRow v5.heap.size #[.int .u8 (x5.cl : Int), .int .u32 (x5.s : Int), .int .i64 x5.e, .int .u32 (x5.j : Int), .int .u8 (x5.st : Int), .int .i64 x5.c] := ⟨_, rfl⟩
  have h12 : Below v5.heap.size v5 u5_ := by rw [hu]; exact ((Below.refl _ _).alloc (Nat.le_refl _) _).trans (setRow_below _ (Nat.le_refl _))
  have HT5_u5_ := hid (show u5_.heap[v5.heap.size]? = some (.cells #[.int .u8 (x5.cl : Int), .int .u32 (x5.s : Int), .int .i64 x5.e, .int .u32 (x5.j : Int), .int .u8 (x5.st : Int), .int .i64 x5.c] 54 (0, 0)) by rw [hu]; exact setRow_heap (v5.alloc (.cells #[.int .u8 0, .int .u32 0, .int .i64 0, .int .u32 0, .int .u8 0, .int .i64 0] 54)) v5.heap.size _ _ 54 _ HS5.out)
  have hsu5 : v5.heap.size + 1 ≤ u5_.heap.size := by rw [hu]; simp
  have HB_u5_ := hid (HB_u4_.out.trans ((hb.mono (by omega)).trans (h12.mono (by omega))))
  have HP_u5_ := hid ((HP_u4_.out.below hb).below h12)
  have HD_u5_ := hid ((HD_u4_.out.below hb).below h12)
  have HOW_u5_ := hid ((HOW_u4_.out.below hb).below h12)
  have HRD1_u5_ := hid ((HRD1_u4_.out.below hb).below h12)
  have HRD2_u5_ := hid ((HRD2_u4_.out.below hb).below h12)
  have HT1_u5_ := hid ((h12.block v1.heap.size (by omega)).trans ((hb.block v1.heap.size (by omega)).trans HT1_u4_.out))
  have HT2_u5_ := hid ((h12.block v2.heap.size (by omega)).trans ((hb.block v2.heap.size (by omega)).trans HT2_u4_.out))
  have HT3_u5_ := hid ((h12.block v3.heap.size (by omega)).trans ((hb.block v3.heap.size (by omega)).trans HT3_u4_.out))
  have HT4_u5_ := hid ((h12.block v4.heap.size (by omega)).trans ((hb.block v4.heap.size (by omega)).trans HT4_u4_.out))
  have HW5 := hid hu
  clear hu h12 hb hans
  go_wp2_with (first | (refine store_st rfl 54 (.tmp 12) (.tmp 58) rfl v5.heap.size #[.int .u8 (x5.cl : Int), .int .u32 (x5.s : Int), .int .i64 x5.e, .int .u32 (x5.j : Int), .int .u8 (x5.st : Int), .int .i64 x5.c] rfl rfl #[.int .u8 0, .int .u32 0, .int .i64 0, .int .u32 0, .int .u8 0, .int .i64 0] 6 HS5.out size_reply rfl rfl (by simp [Value.oneCell']) ?_) | fail)
  rw [← HW5.out]
  refine (refreply_read (.slice A 400 C) l u5_ HD_u5_.out HPL.out).mono ?_
  rintro e v6 ⟨x6, e6, rfl, hans, _, hb⟩
  have HAN6 := hid hans
  have hsv6 := hb.size
  have HS6 := hid (heap_alloc_new v6 (.cells #[.int .u8 0, .int .u32 0, .int .i64 0, .int .u32 0, .int .u8 0, .int .i64 0] 54))
  obtain ⟨u6_, hu⟩ : ∃ u, u = (v6.alloc (.cells #[.int .u8 0, .int .u32 0, .int .i64 0, .int .u32 0, .int .u8 0, .int .i64 0] 54)).setRow v6.heap.size #[.int .u8 (x6.cl : Int), .int .u32 (x6.s : Int), .int .i64 x6.e, .int .u32 (x6.j : Int), .int .u8 (x6.st : Int), .int .i64 x6.c] := ⟨_, rfl⟩
  have h12 : Below v6.heap.size v6 u6_ := by rw [hu]; exact ((Below.refl _ _).alloc (Nat.le_refl _) _).trans (setRow_below _ (Nat.le_refl _))
  have HT6_u6_ := hid (show u6_.heap[v6.heap.size]? = some (.cells #[.int .u8 (x6.cl : Int), .int .u32 (x6.s : Int), .int .i64 x6.e, .int .u32 (x6.j : Int), .int .u8 (x6.st : Int), .int .i64 x6.c] 54 (0, 0)) by rw [hu]; exact setRow_heap (v6.alloc (.cells #[.int .u8 0, .int .u32 0, .int .i64 0, .int .u32 0, .int .u8 0, .int .i64 0] 54)) v6.heap.size _ _ 54 _ HS6.out)
  have hsu6 : v6.heap.size + 1 ≤ u6_.heap.size := by rw [hu]; simp
  have HB_u6_ := hid (HB_u5_.out.trans ((hb.mono (by omega)).trans (h12.mono (by omega))))
  have HP_u6_ := hid ((HP_u5_.out.below hb).below h12)
  have HD_u6_ := hid ((HD_u5_.out.below hb).below h12)
  have HOW_u6_ := hid ((HOW_u5_.out.below hb).below h12)
  have HRD1_u6_ := hid ((HRD1_u5_.out.below hb).below h12)
  have HRD2_u6_ := hid ((HRD2_u5_.out.below hb).below h12)
  have HT1_u6_ := hid ((h12.block v1.heap.size (by omega)).trans ((hb.block v1.heap.size (by omega)).trans HT1_u5_.out))
  have HT2_u6_ := hid ((h12.block v2.heap.size (by omega)).trans ((hb.block v2.heap.size (by omega)).trans HT2_u5_.out))
  have HT3_u6_ := hid ((h12.block v3.heap.size (by omega)).trans ((hb.block v3.heap.size (by omega)).trans HT3_u5_.out))
  have HT4_u6_ := hid ((h12.block v4.heap.size (by omega)).trans ((hb.block v4.heap.size (by omega)).trans HT4_u5_.out))
  have HT5_u6_ := hid ((h12.block v5.heap.size (by omega)).trans ((hb.block v5.heap.size (by omega)).trans HT5_u5_.out))
  obtain ⟨q1, q2⟩ := Note.Ans.unique Note.R.inj hans HAN5.out
  have HW6 := hid hu
  clear hu h12 hb hans
  have HX6 := hid q1
  have HQ6 := hid q2
  clear q1 q2
  go_wp2_with (first | (refine store_st rfl 54 (.tmp 14) (.tmp 63) rfl v6.heap.size #[.int .u8 (x6.cl : Int), .int .u32 (x6.s : Int), .int .i64 x6.e, .int .u32 (x6.j : Int), .int .u8 (x6.st : Int), .int .i64 x6.c] rfl rfl #[.int .u8 0, .int .u32 0, .int .i64 0, .int .u32 0, .int .u8 0, .int .i64 0] 6 HS6.out size_reply rfl rfl (by simp [Value.oneCell']) ?_) | fail)
  rw [← HW6.out]
  refine (readpacket_any (.slice (some ⟨g, 0, none⟩) 400 c) l u6_ HP_u6_.out HPL.out).mono ?_
  rintro e v7 ⟨x7, bv7, e7, rfl, hans, _, hob, hb⟩
  have HAN7 := hid hans
  have hsv7 := hb.size
  obtain ⟨ba7, bc7, hbv, _⟩ := hob.rd
  obtain ⟨bl7, hbl⟩ : ∃ n, n = x7.b.length := ⟨_, rfl⟩
  rw [← hbl] at hbv
  subst hbv
  have HBL7 := hid hbl
  have HRD7_v7 := hid (show Rd v7 (.slice ba7 bl7 bc7) x7.b from hob.rd)
  clear hob hbl
  have HS7 := hid (heap_alloc_new v7 (.cells #[.int .u8 0, .int .u32 0, .int .u32 0, .int .u32 0, .int .u32 0, .bool false, .slice none 0 0] 38))
  obtain ⟨u7_, hu⟩ : ∃ u, u = (v7.alloc (.cells #[.int .u8 0, .int .u32 0, .int .u32 0, .int .u32 0, .int .u32 0, .bool false, .slice none 0 0] 38)).setRow v7.heap.size #[.int .u8 (x7.n : Int), .int .u32 (x7.e : Int), .int .u32 (x7.l : Int), .int .u32 (x7.s : Int), .int .u32 (x7.a : Int), .bool x7.p, .slice ba7 bl7 bc7] := ⟨_, rfl⟩
  have h12 : Below v7.heap.size v7 u7_ := by rw [hu]; exact ((Below.refl _ _).alloc (Nat.le_refl _) _).trans (setRow_below _ (Nat.le_refl _))
  have HT7_u7_ := hid (show u7_.heap[v7.heap.size]? = some (.cells #[.int .u8 (x7.n : Int), .int .u32 (x7.e : Int), .int .u32 (x7.l : Int), .int .u32 (x7.s : Int), .int .u32 (x7.a : Int), .bool x7.p, .slice ba7 bl7 bc7] 38 (0, 0)) by rw [hu]; exact setRow_heap (v7.alloc (.cells #[.int .u8 0, .int .u32 0, .int .u32 0, .int .u32 0, .int .u32 0, .bool false, .slice none 0 0] 38)) v7.heap.size _ _ 38 _ HS7.out)
  have hsu7 : v7.heap.size + 1 ≤ u7_.heap.size := by rw [hu]; simp
  have HB_u7_ := hid (HB_u6_.out.trans ((hb.mono (by omega)).trans (h12.mono (by omega))))
  have HRD7_u7_ := hid (HRD7_v7.out.below h12)
  have HP_u7_ := hid ((HP_u6_.out.below hb).below h12)
  have HD_u7_ := hid ((HD_u6_.out.below hb).below h12)
  have HOW_u7_ := hid ((HOW_u6_.out.below hb).below h12)
  have HRD1_u7_ := hid ((HRD1_u6_.out.below hb).below h12)
  have HRD2_u7_ := hid ((HRD2_u6_.out.below hb).below h12)
  have HT1_u7_ := hid ((h12.block v1.heap.size (by omega)).trans ((hb.block v1.heap.size (by omega)).trans HT1_u6_.out))
  have HT2_u7_ := hid ((h12.block v2.heap.size (by omega)).trans ((hb.block v2.heap.size (by omega)).trans HT2_u6_.out))
  have HT3_u7_ := hid ((h12.block v3.heap.size (by omega)).trans ((hb.block v3.heap.size (by omega)).trans HT3_u6_.out))
  have HT4_u7_ := hid ((h12.block v4.heap.size (by omega)).trans ((hb.block v4.heap.size (by omega)).trans HT4_u6_.out))
  have HT5_u7_ := hid ((h12.block v5.heap.size (by omega)).trans ((hb.block v5.heap.size (by omega)).trans HT5_u6_.out))
  have HT6_u7_ := hid ((h12.block v6.heap.size (by omega)).trans ((hb.block v6.heap.size (by omega)).trans HT6_u6_.out))
  have HW7 := hid hu
  clear hu h12 hb hans
  go_wp2_with (first | (refine store_st rfl 38 (.tmp 16) (.tmp 68) rfl v7.heap.size #[.int .u8 (x7.n : Int), .int .u32 (x7.e : Int), .int .u32 (x7.l : Int), .int .u32 (x7.s : Int), .int .u32 (x7.a : Int), .bool x7.p, .slice ba7 bl7 bc7] rfl rfl #[.int .u8 0, .int .u32 0, .int .u32 0, .int .u32 0, .int .u32 0, .bool false, .slice none 0 0] 7 HS7.out size_packet rfl rfl (by simp [Value.oneCell']) ?_) | fail)
  rw [← HW7.out]
  refine (refpacket_read (.slice A 400 C) l u7_ HD_u7_.out HPL.out).mono ?_
  rintro e v8 ⟨x8, bv8, e8, rfl, hans, _, hob, hb⟩
  have HAN8 := hid hans
  have hsv8 := hb.size
  obtain ⟨ba8, bc8, hbv, _⟩ := hob.rd
  obtain ⟨bl8, hbl⟩ : ∃ n, n = x8.b.length := ⟨_, rfl⟩
  rw [← hbl] at hbv
  subst hbv
  have HBL8 := hid hbl
  have HRD8_v8 := hid (show Rd v8 (.slice ba8 bl8 bc8) x8.b from hob.rd)
  clear hob hbl
  have HS8 := hid (heap_alloc_new v8 (.cells #[.int .u8 0, .int .u32 0, .int .u32 0, .int .u32 0, .int .u32 0, .bool false, .slice none 0 0] 38))
  obtain ⟨u8_, hu⟩ : ∃ u, u = (v8.alloc (.cells #[.int .u8 0, .int .u32 0, .int .u32 0, .int .u32 0, .int .u32 0, .bool false, .slice none 0 0] 38)).setRow v8.heap.size #[.int .u8 (x8.n : Int), .int .u32 (x8.e : Int), .int .u32 (x8.l : Int), .int .u32 (x8.s : Int), .int .u32 (x8.a : Int), .bool x8.p, .slice ba8 bl8 bc8] := ⟨_, rfl⟩
  have h12 : Below v8.heap.size v8 u8_ := by rw [hu]; exact ((Below.refl _ _).alloc (Nat.le_refl _) _).trans (setRow_below _ (Nat.le_refl _))
  have HT8_u8_ := hid (show u8_.heap[v8.heap.size]? = some (.cells #[.int .u8 (x8.n : Int), .int .u32 (x8.e : Int), .int .u32 (x8.l : Int), .int .u32 (x8.s : Int), .int .u32 (x8.a : Int), .bool x8.p, .slice ba8 bl8 bc8] 38 (0, 0)) by rw [hu]; exact setRow_heap (v8.alloc (.cells #[.int .u8 0, .int .u32 0, .int .u32 0, .int .u32 0, .int .u32 0, .bool false, .slice none 0 0] 38)) v8.heap.size _ _ 38 _ HS8.out)
  have hsu8 : v8.heap.size + 1 ≤ u8_.heap.size := by rw [hu]; simp
  have HB_u8_ := hid (HB_u7_.out.trans ((hb.mono (by omega)).trans (h12.mono (by omega))))
  have HRD8_u8_ := hid (HRD8_v8.out.below h12)
  have HP_u8_ := hid ((HP_u7_.out.below hb).below h12)
  have HD_u8_ := hid ((HD_u7_.out.below hb).below h12)
  have HOW_u8_ := hid ((HOW_u7_.out.below hb).below h12)
  have HRD1_u8_ := hid ((HRD1_u7_.out.below hb).below h12)
  have HRD2_u8_ := hid ((HRD2_u7_.out.below hb).below h12)
  have HRD7_u8_ := hid ((HRD7_u7_.out.below hb).below h12)
  have HT1_u8_ := hid ((h12.block v1.heap.size (by omega)).trans ((hb.block v1.heap.size (by omega)).trans HT1_u7_.out))
  have HT2_u8_ := hid ((h12.block v2.heap.size (by omega)).trans ((hb.block v2.heap.size (by omega)).trans HT2_u7_.out))
  have HT3_u8_ := hid ((h12.block v3.heap.size (by omega)).trans ((hb.block v3.heap.size (by omega)).trans HT3_u7_.out))
  have HT4_u8_ := hid ((h12.block v4.heap.size (by omega)).trans ((hb.block v4.heap.size (by omega)).trans HT4_u7_.out))
  have HT5_u8_ := hid ((h12.block v5.heap.size (by omega)).trans ((hb.block v5.heap.size (by omega)).trans HT5_u7_.out))
  have HT6_u8_ := hid ((h12.block v6.heap.size (by omega)).trans ((hb.block v6.heap.size (by omega)).trans HT6_u7_.out))
  have HT7_u8_ := hid ((h12.block v7.heap.size (by omega)).trans ((hb.block v7.heap.size (by omega)).trans HT7_u7_.out))
  obtain ⟨q1, q2⟩ := Note.Ans.unique Note.P.inj hans HAN7.out
  have HW8 := hid hu
  clear hu h12 hb hans
  have HX8 := hid q1
  have HQ8 := hid q2
  clear q1 q2
  have r2 := HX2.out
  have s2 := HQ2.out
  subst r2 s2
  have r4 := HX4.out
  have s4 := HQ4.out
  subst r4 s4
  have r6 := HX6.out
  have s6 := HQ6.out
  subst r6 s6
  have r8 := HX8.out
  have s8 := HQ8.out
  subst r8 s8
  obtain rfl : bl1 = bl2 := HBL1.out.trans HBL2.out.symm
  obtain rfl : bl7 = bl8 := HBL7.out.trans HBL8.out.symm
  go_upto_region 13 with (first | (refine store_st rfl 38 (.tmp 18) (.tmp 73) rfl v8.heap.size #[.int .u8 (x8.n : Int), .int .u32 (x8.e : Int), .int .u32 (x8.l : Int), .int .u32 (x8.s : Int), .int .u32 (x8.a : Int), .bool x8.p, .slice ba8 bl7 bc8] rfl rfl #[.int .u8 0, .int .u32 0, .int .u32 0, .int .u32 0, .int .u32 0, .bool false, .slice none 0 0] 7 HS8.out size_packet rfl rfl (by simp [Value.oneCell']) ?_) | fail)
  rw [← HW8.out]
  go_wp2_with (first | (refine load_st rfl 25 (.tmp 4) rfl v1.heap.size rfl #[.int .u8 (x2.k : Int), .int .u8 (x2.n : Int), .int .u32 (x2.e : Int), .int .u32 (x2.l : Int), .int .u32 (x2.t : Int), .int .u32 (x2.g : Int), .int .u32 (x2.j : Int), .int .u32 (x2.v : Int), .int .u8 (x2.r : Int), .int .i64 x2.c, .int .u32 (x2.f : Int), .int .u32 (x2.o : Int), .slice ba1 bl1 bc1] _ 13 HT1_u8_.out Try.underlying25 size_note rfl ?_) | (refine load_st rfl 25 (.tmp 6) rfl v2.heap.size rfl #[.int .u8 (x2.k : Int), .int .u8 (x2.n : Int), .int .u32 (x2.e : Int), .int .u32 (x2.l : Int), .int .u32 (x2.t : Int), .int .u32 (x2.g : Int), .int .u32 (x2.j : Int), .int .u32 (x2.v : Int), .int .u8 (x2.r : Int), .int .i64 x2.c, .int .u32 (x2.f : Int), .int .u32 (x2.o : Int), .slice ba2 bl1 bc2] _ 13 HT2_u8_.out Try.underlying25 size_note rfl ?_) | fail)
  refine (samenote_eq x2 ba1 ba2 bc1 bc2 bl1 u8_ HRD1_u8_.out HRD2_u8_.out).mono ?_
  rintro e wk ⟨rfl, hbk⟩
  have hsk := hbk.size
  have HT3_k := hid ((hbk.block v3.heap.size (by omega)).trans HT3_u8_.out)
  have HT4_k := hid ((hbk.block v4.heap.size (by omega)).trans HT4_u8_.out)
  have HT5_k := hid ((hbk.block v5.heap.size (by omega)).trans HT5_u8_.out)
  have HT6_k := hid ((hbk.block v6.heap.size (by omega)).trans HT6_u8_.out)
  have HT7_k := hid ((hbk.block v7.heap.size (by omega)).trans HT7_u8_.out)
  have HT8_k := hid ((hbk.block v8.heap.size (by omega)).trans HT8_u8_.out)
  have HP_k := hid (HP_u8_.out.below hbk)
  have HD_k := hid (HD_u8_.out.below hbk)
  have HOW_k := hid (HOW_u8_.out.below hbk)
  have HRD7_k := hid (HRD7_u8_.out.below hbk)
  have HRD8_k := hid (HRD8_u8_.out.below hbk)
  have HB_k := hid (HB_u8_.out.trans (hbk.mono (by omega)))
  clear hbk
  have cc0 : wk.cell? ⟨v3.heap.size, 0, none⟩ = some (.int .u8 (x4.cl : Int)) := (cell_of_row _ _ _ _ _ _ HT3_k.out).trans rfl
  have cc1 : wk.cell? ⟨v3.heap.size, 1, none⟩ = some (.int .u32 (x4.s : Int)) := (cell_of_row _ _ _ _ _ _ HT3_k.out).trans rfl
  have cc2 : wk.cell? ⟨v3.heap.size, 2, none⟩ = some (.int .u8 (x4.k : Int)) := (cell_of_row _ _ _ _ _ _ HT3_k.out).trans rfl
  have cc3 : wk.cell? ⟨v3.heap.size, 3, none⟩ = some (.int .u8 (x4.t : Int)) := (cell_of_row _ _ _ _ _ _ HT3_k.out).trans rfl
  have cc4 : wk.cell? ⟨v3.heap.size, 4, none⟩ = some (.int .i64 x4.kk) := (cell_of_row _ _ _ _ _ _ HT3_k.out).trans rfl
  have cc5 : wk.cell? ⟨v3.heap.size, 5, none⟩ = some (.int .i64 x4.w) := (cell_of_row _ _ _ _ _ _ HT3_k.out).trans rfl
  have cc6 : wk.cell? ⟨v3.heap.size, 6, none⟩ = some (.int .u32 (x4.j : Int)) := (cell_of_row _ _ _ _ _ _ HT3_k.out).trans rfl
  have cd0 : wk.cell? ⟨v4.heap.size, 0, none⟩ = some (.int .u8 (x4.cl : Int)) := (cell_of_row _ _ _ _ _ _ HT4_k.out).trans rfl
  have cd1 : wk.cell? ⟨v4.heap.size, 1, none⟩ = some (.int .u32 (x4.s : Int)) := (cell_of_row _ _ _ _ _ _ HT4_k.out).trans rfl
  have cd2 : wk.cell? ⟨v4.heap.size, 2, none⟩ = some (.int .u8 (x4.k : Int)) := (cell_of_row _ _ _ _ _ _ HT4_k.out).trans rfl
  have cd3 : wk.cell? ⟨v4.heap.size, 3, none⟩ = some (.int .u8 (x4.t : Int)) := (cell_of_row _ _ _ _ _ _ HT4_k.out).trans rfl
  have cd4 : wk.cell? ⟨v4.heap.size, 4, none⟩ = some (.int .i64 x4.kk) := (cell_of_row _ _ _ _ _ _ HT4_k.out).trans rfl
  have cd5 : wk.cell? ⟨v4.heap.size, 5, none⟩ = some (.int .i64 x4.w) := (cell_of_row _ _ _ _ _ _ HT4_k.out).trans rfl
  have cd6 : wk.cell? ⟨v4.heap.size, 6, none⟩ = some (.int .u32 (x4.j : Int)) := (cell_of_row _ _ _ _ _ _ HT4_k.out).trans rfl
  have ce0 : wk.cell? ⟨v5.heap.size, 0, none⟩ = some (.int .u8 (x6.cl : Int)) := (cell_of_row _ _ _ _ _ _ HT5_k.out).trans rfl
  have ce1 : wk.cell? ⟨v5.heap.size, 1, none⟩ = some (.int .u32 (x6.s : Int)) := (cell_of_row _ _ _ _ _ _ HT5_k.out).trans rfl
  have ce2 : wk.cell? ⟨v5.heap.size, 2, none⟩ = some (.int .i64 x6.e) := (cell_of_row _ _ _ _ _ _ HT5_k.out).trans rfl
  have ce3 : wk.cell? ⟨v5.heap.size, 3, none⟩ = some (.int .u32 (x6.j : Int)) := (cell_of_row _ _ _ _ _ _ HT5_k.out).trans rfl
  have ce4 : wk.cell? ⟨v5.heap.size, 4, none⟩ = some (.int .u8 (x6.st : Int)) := (cell_of_row _ _ _ _ _ _ HT5_k.out).trans rfl
  have ce5 : wk.cell? ⟨v5.heap.size, 5, none⟩ = some (.int .i64 x6.c) := (cell_of_row _ _ _ _ _ _ HT5_k.out).trans rfl
  have cf0 : wk.cell? ⟨v6.heap.size, 0, none⟩ = some (.int .u8 (x6.cl : Int)) := (cell_of_row _ _ _ _ _ _ HT6_k.out).trans rfl
  have cf1 : wk.cell? ⟨v6.heap.size, 1, none⟩ = some (.int .u32 (x6.s : Int)) := (cell_of_row _ _ _ _ _ _ HT6_k.out).trans rfl
  have cf2 : wk.cell? ⟨v6.heap.size, 2, none⟩ = some (.int .i64 x6.e) := (cell_of_row _ _ _ _ _ _ HT6_k.out).trans rfl
  have cf3 : wk.cell? ⟨v6.heap.size, 3, none⟩ = some (.int .u32 (x6.j : Int)) := (cell_of_row _ _ _ _ _ _ HT6_k.out).trans rfl
  have cf4 : wk.cell? ⟨v6.heap.size, 4, none⟩ = some (.int .u8 (x6.st : Int)) := (cell_of_row _ _ _ _ _ _ HT6_k.out).trans rfl
  have cf5 : wk.cell? ⟨v6.heap.size, 5, none⟩ = some (.int .i64 x6.c) := (cell_of_row _ _ _ _ _ _ HT6_k.out).trans rfl
  have cg0 : wk.cell? ⟨v7.heap.size, 0, none⟩ = some (.int .u8 (x8.n : Int)) := (cell_of_row _ _ _ _ _ _ HT7_k.out).trans rfl
  have cg1 : wk.cell? ⟨v7.heap.size, 1, none⟩ = some (.int .u32 (x8.e : Int)) := (cell_of_row _ _ _ _ _ _ HT7_k.out).trans rfl
  have cg2 : wk.cell? ⟨v7.heap.size, 2, none⟩ = some (.int .u32 (x8.l : Int)) := (cell_of_row _ _ _ _ _ _ HT7_k.out).trans rfl
  have cg3 : wk.cell? ⟨v7.heap.size, 3, none⟩ = some (.int .u32 (x8.s : Int)) := (cell_of_row _ _ _ _ _ _ HT7_k.out).trans rfl
  have cg4 : wk.cell? ⟨v7.heap.size, 4, none⟩ = some (.int .u32 (x8.a : Int)) := (cell_of_row _ _ _ _ _ _ HT7_k.out).trans rfl
  have cg5 : wk.cell? ⟨v7.heap.size, 5, none⟩ = some (.bool x8.p) := (cell_of_row _ _ _ _ _ _ HT7_k.out).trans rfl
  have cg6 : wk.cell? ⟨v7.heap.size, 6, none⟩ = some (.slice ba7 bl7 bc7) := (cell_of_row _ _ _ _ _ _ HT7_k.out).trans rfl
  have ch0 : wk.cell? ⟨v8.heap.size, 0, none⟩ = some (.int .u8 (x8.n : Int)) := (cell_of_row _ _ _ _ _ _ HT8_k.out).trans rfl
  have ch1 : wk.cell? ⟨v8.heap.size, 1, none⟩ = some (.int .u32 (x8.e : Int)) := (cell_of_row _ _ _ _ _ _ HT8_k.out).trans rfl
  have ch2 : wk.cell? ⟨v8.heap.size, 2, none⟩ = some (.int .u32 (x8.l : Int)) := (cell_of_row _ _ _ _ _ _ HT8_k.out).trans rfl
  have ch3 : wk.cell? ⟨v8.heap.size, 3, none⟩ = some (.int .u32 (x8.s : Int)) := (cell_of_row _ _ _ _ _ _ HT8_k.out).trans rfl
  have ch4 : wk.cell? ⟨v8.heap.size, 4, none⟩ = some (.int .u32 (x8.a : Int)) := (cell_of_row _ _ _ _ _ _ HT8_k.out).trans rfl
  have ch5 : wk.cell? ⟨v8.heap.size, 5, none⟩ = some (.bool x8.p) := (cell_of_row _ _ _ _ _ _ HT8_k.out).trans rfl
  have ch6 : wk.cell? ⟨v8.heap.size, 6, none⟩ = some (.slice ba8 bl7 bc8) := (cell_of_row _ _ _ _ _ _ HT8_k.out).trans rfl
  go_wp2_with fail
  refine (samepacket_eq x8 ba7 ba8 bc7 bc8 bl7 wk HRD7_k.out HRD8_k.out).mono ?_
  rintro e wm ⟨rfl, hbm⟩
  have HPm := hid (HP_k.out.below hbm)
  have HDm := hid (HD_k.out.below hbm)
  have HOm := hid (HOW_k.out.below hbm)
  have HBm := hid (HB_k.out.trans (hbm.mono HB_k.out.size))
  clear hbm cc0 cc1 cc2 cc3 cc4 cc5 cc6 cd0 cd1 cd2 cd3 cd4 cd5 cd6 ce0 ce1 ce2 ce3 ce4 ce5 cf0 cf1 cf2 cf3 cf4 cf5 cg0 cg1 cg2 cg3 cg4 cg5 cg6 ch0 ch1 ch2 ch3 ch4 ch5 ch6
  go_wp2_with fail
  refine (same_eq _ _ l wm HPm.out HDm.out).mono ?_
  rintro e w' ⟨rfl, rfl⟩
  have hcell : wm.cell? ⟨g, 400, none⟩ = some (.int .u8 165) := by
    have h0 := HOm.out.cell 400 (by have := HLL.out; simp <;> omega)
    rw [h0]
    have e1 : (l ++ [165]).getD 400 0 = (165 : UInt8) := by
      rw [HLL.out.1, List.getD_eq_getElem?_getD, List.getElem?_append_right (Nat.le_refl _)]
      simp
    rw [e1]
    rfl
  go_wp2
  go_ret
  exact ⟨rfl, HBm.out⟩

set_option maxHeartbeats 1000000 in
theorem walk (a0 : Option Addr) (len0 cap0 : Nat) (z0 : List Int) (w : World) (w0 : IsRow .u8 w a0 len0 cap0 z0) :
    Calls Try.prog 5 #[.slice a0 len0 cap0] w fun e w' => e = .returned (.bool true) ∧ Below w.heap.size w w' := by
  obtain ⟨hb1, hb2, hb3⟩ := w0.bounds
  by_cases hk : len0 ≤ 400
  · obtain ⟨l, hl, hrd⟩ := w0.rd len0 (Nat.le_refl _)
    exact nrs_some a0 cap0 len0 hk l w (by omega) hb1 hl.symm hrd
  · obtain ⟨l, hl, hrd⟩ := w0.rd 400 (by omega)
    exact nrs_many a0 cap0 len0 (by omega) l w (by omega) hb1 hl.symm hrd

/-! ### THE ROW's STEP -/
set_option maxRecDepth 100000 in
theorem lifted (os : Os) (started : os.Started) (H : Type) (enc : TypeId × Value → H) :
    ReturnsInHanded {} Try.checked os 5 .any (Rows.noteReadsSpec.pre6 enc Try.prog Try.f5 Rows.noteReadsRow.domain false) (Rows.noteReadsSpec.post enc Try.prog Try.f5 false true false false) := by
  refine returnsInHanded_of_change (C := Try.checked) own started (by kernel_rfl) Try.func5
    (ChangeSpec.witness6 (enc := enc) (C := Try.checked) false ⟨#[], #[.slice none 0 0], []⟩ 8 (by kernel_rfl) (by kernel_rfl) (by kernel_rfl) (by kernel_rfl)) ?_
  intro W base args ds gs before hval0 hW hcnd _
  have hval : ∀ (j : Nat) t v, Try.f5.params[j]? = some t → args[j]? = some v → Value.okWide Try.prog W .any base t v := hval0
  have hW' := hW
  obtain ⟨p, q, hA0, hV, rfl, hfz, hnd⟩ := hW
  have hA : DataW.TrodAll enc Try.prog W 0 (fun _ => true) true Try.f5.params.toList args.toList ds p := hA0
  rw [Try.params5] at hA hval
  obtain ⟨v0, vs0, d0, ds0, p0, q0, hargs, rfl, rfl, h0, r0⟩ := trodAll_cons hA
  obtain ⟨rfl, rfl, rfl⟩ := trodAll_nil r0
  obtain rfl : args = #[v0] := by cases args; simp_all
  obtain ⟨rfl, rfl⟩ := trodVars_none hV
  have k0 := h0
  have lt0 : ∀ x ∈ p0, x.block < W.heap.size := by obtain ⟨m, hm⟩ := k0; exact DataW.trod_lt m _ _ _ hm
  obtain ⟨a0, len0, cap0, rfl⟩ := okWide_slice Try.underlying23 (hval 0 23 v0 rfl rfl)
  obtain ⟨z0, w0⟩ : ∃ zs, IsRow .u8 W a0 len0 cap0 zs := by
    obtain ⟨fuel, hf⟩ := h0
    rcases open_ints Try.underlying23 Try.underlying5 (by kernel_rfl) hf with ⟨hcs, _⟩ | ⟨x, l, c, zs, hcs, _, hl, hm, hz, _, hcell, hwz⟩
    · simp [Value.cells] at hcs
      obtain ⟨rfl, rfl, rfl⟩ := hcs
      exact ⟨[], .inl ⟨rfl, rfl, rfl, rfl⟩⟩
    · simp [Value.cells] at hcs
      obtain ⟨rfl, rfl, rfl⟩ := hcs
      exact ⟨zs, .inr ⟨_, rfl, hl, hm, by simpa using hz, hcell, hwz⟩⟩
  clear hA0 hval0
  refine (walk a0 len0 cap0 z0 W w0).mono fun e W' ⟨he, bel⟩ => ?_
  subst he
  exact ⟨_, rfl, _, _, _, [], _, [], hW', trodAll_mk1 (shut_bool Try.underlying4 _), (trodAll_cons_mk (Below.trod laidOut (by kernel_rfl) (of_decide_eq_true (by kernel_rfl)) k0 bel lt0) trodAll_mk0), rfl, bel.frame _, fun h => by cases h⟩

theorem over : Rows.noteReadsRow.holds Try.pinned (OpenSpec.ofChange Rows.noteReadsSpec) :=
  OpenClaim.holds_of_wide 5 Try.f5 rfl rfl rfl rfl rfl rfl rfl ⟨rfl, rfl, rfl, rfl, rfl⟩ rfl rfl rfl rfl rfl (by kernel_rfl) Try.func5 (by kernel_rfl)
    (of_decide_eq_true (by kernel_rfl)) (by unfold Func.isWrapper; first | (rw [if_pos (by decide +kernel)]; kernel_rfl) | (rw [if_neg (by decide +kernel)]; exact ⟨rfl, rfl⟩))
    (fun os started H enc _ => lifted os started H enc)

/-- THE STATEMENT -/
theorem noteReads_holds : Rows.NoteReadsSaid := over
#print axioms noteReads_holds
end Go.Proofs.Ytafpgglebjllbaa.noteReads
