/-
  The document's writer of packets; two packets alike: contracts.
-/
import Derived.Test.YtafpgglebjllbaaNoteX
import Derived.Test.YtafpgglebjllbaaNoteR
import Derived.Test.YtafpgglebjllbaaRefTie
import Derived.Test.YtafpgglebjllbaaSame
namespace Go.Proofs.Ytafpgglebjllbaa
open Go.RowKit

set_option maxRecDepth 100000 in
set_option maxHeartbeats 4000000 in
theorem refpacket_no (x : Note.P) (ad : Option Addr) (cp L : Nat) (hL : L = x.b.length) (w : World) (hr : x.right = false) :
    Calls Try.prog 16 #[.agg #[.int .u8 (x.n : Int), .int .u32 (x.e : Int), .int .u32 (x.l : Int), .int .u32 (x.s : Int), .int .u32 (x.a : Int), .bool x.p, .slice ad L cp]] w fun e w' => e = .returned (.tuple #[.slice none 0 0, .int .i64 4]) ∧ Below w.heap.size w w' := by
  have HR := hid hr
  have HL := hid hL
  clear hr hL
  by_cases c0 : x.n ≤ 15
  · have d0 : ¬ 15 < (x.n : Int) := by omega
    by_cases c1 : L ≤ 1984
    · have d1 : ¬ 1984 < (L : Int) := by omega
      cases hp : x.p
      · exact absurd HR.out (by unfold Note.P.right; rw [← HL.out, hp]; simp; omega)
      · by_cases c2 : x.s = 0
        · exact absurd HR.out (by unfold Note.P.right; rw [← HL.out, hp, c2]; simp; omega)
        · have q2 : ((x.s : Int) != 0) = true := by rw [bne_iff_ne]; omega
          go_enter Try.func16, Try.ntmps16
          go_wp2
          go_ret2
          exact ⟨rfl, (Below.refl _ _).alloc (Nat.le_refl _) _⟩
    · have d1 : 1984 < (L : Int) := by omega
      go_enter Try.func16, Try.ntmps16
      go_wp2
      go_ret2
      exact ⟨rfl, (Below.refl _ _).alloc (Nat.le_refl _) _⟩
  · have d0 : 15 < (x.n : Int) := by omega
    go_enter Try.func16, Try.ntmps16
    go_wp2
    go_ret2
    exact ⟨rfl, (Below.refl _ _).alloc (Nat.le_refl _) _⟩


set_option maxRecDepth 100000 in
set_option maxHeartbeats 4000000 in
theorem refpacket_yes0 (x : Note.P) (ad : Option Addr) (cp L : Nat) (hL : L = x.b.length) (w : World) (hx : x.wf) (hrd : Rd w (.slice ad L cp) x.b) (hr : x.right = true) (hp : x.p = false) :
    Calls Try.prog 16 #[.agg #[.int .u8 (x.n : Int), .int .u32 (x.e : Int), .int .u32 (x.l : Int), .int .u32 (x.s : Int), .int .u32 (x.a : Int), .bool false, .slice ad L cp]] w fun e w' => ∃ kv, e = .returned (.tuple #[kv, .int .i64 0]) ∧ Own w' w.heap.size kv (Knot.knot x.enc) ∧ Below w.heap.size w w' := by
  have HEL := hid (show x.enc.length ≤ 2048 from x.enc_length hx hr)
  obtain ⟨b0, b1, b2, b3, b4⟩ := hx
  have HRO := hid (Note.P.right_of x hr)
  have hcs := hr
  unfold Note.P.right at hcs
  rw [hp] at hcs
  simp only [Bool.and_eq_true, decide_eq_true_eq, Bool.not_eq_true'] at hcs
  skip
  have HL := hid hL
  have HRD := hid hrd
  have HP := hid hp
  clear hr hL hrd hcs hp
  have d0 : ¬ 15 < (x.n : Int) := by have := HRO.out.1; omega
  have d1 : ¬ 1984 < (L : Int) := by have := HRO.out.2; have := HL.out; omega
  obtain ⟨w1, hwb⟩ : ∃ w1, w1 = w.alloc (.cells #[.int .u8 (x.n : Int), .int .u32 (x.e : Int), .int .u32 (x.l : Int), .int .u32 (x.s : Int), .int .u32 (x.a : Int), .bool false, .slice ad L cp] 38) := ⟨_, rfl⟩
  have hbx1 : w1.heap[w.heap.size]? = some (.cells #[.int .u8 (x.n : Int), .int .u32 (x.e : Int), .int .u32 (x.l : Int), .int .u32 (x.s : Int), .int .u32 (x.a : Int), .bool false, .slice ad L cp] 38 (0, 0)) := by rw [hwb]; exact heap_alloc_new w _
  have hB1 : Below w.heap.size w w1 := by rw [hwb]; exact (Below.refl _ _).alloc (Nat.le_refl _) _
  have HWB := hid hwb
  have HSZ1 := hid (show w1.heap.size = w.heap.size + 1 by rw [hwb]; simp)
  clear hwb
  have HU := hid (show (w1.alloc (.cells ([x.n, x.e, x.l, x.s, x.a, 0].map (fun n : Nat => Value.int .u64 (n : Int))).toArray 71)).heap[w.heap.size + 1]? = some (.cells ([x.n, x.e, x.l, x.s, x.a, 0].map (fun n : Nat => Value.int .u64 (n : Int))).toArray 71) from by have h := heap_alloc_new w1 (.cells ([x.n, x.e, x.l, x.s, x.a, 0].map (fun n : Nat => Value.int .u64 (n : Int))).toArray 71); rwa [HSZ1.out] at h)
  have HF := hid (show fits64 [x.n, x.e, x.l, x.s, x.a, 0] from by
    intro j hj
    have hj2 : j = 0 ∨ j = 1 ∨ j = 2 ∨ j = 3 ∨ j = 4 ∨ j = 5 := by simp at hj; omega
    rcases hj2 with rfl | rfl | rfl | rfl | rfl | rfl
    all_goals simp
    all_goals omega)
  have HBA := hid (hB1.alloc hB1.size (.cells ([x.n, x.e, x.l, x.s, x.a, 0].map (fun n : Nat => Value.int .u64 (n : Int))).toArray 71))
  have HBX := hid ((Below.heap_alloc w1 (.cells ([x.n, x.e, x.l, x.s, x.a, 0].map (fun n : Nat => Value.int .u64 (n : Int))).toArray 71) w.heap.size (by have := HSZ1.out; omega)).trans hbx1)
  go_enter Try.func16, Try.ntmps16
  go_wp2_with fail
  rw [← HWB.out]
  refine (refnums_any (w.heap.size + 1) 4 [x.n, x.e, x.l, x.s, x.a, 0] _ HU.out (by omega) (by simp) HF.out 6 rfl 4 rfl).mono ?_
  rintro e w2 ⟨u2, rfl, ho2, hb2⟩
  have hs2 := hb2.size
  simp at hs2
  have hs1 := HSZ1.out
  have hbx2 := (hb2.block w.heap.size (by simp <;> omega)).trans HBX.out
  have HB2 := hid (HBA.out.trans (hb2.mono (by simp; omega)))
  have hc6 : w2.cell? ⟨w.heap.size, 6, none⟩ = some (.slice ad L cp) := (cell_of_row _ _ _ _ _ _ hbx2).trans rfl
  have HNL := hid (show (Note.nums (4 :: [x.n, x.e, x.l, x.s, x.a, 0])).length ≤ 1000 from by have := Note.nums_length (4 :: [x.n, x.e, x.l, x.s, x.a, 0]); simp at this; omega)
  have HO2 := hid (ho2.base (b' := w.heap.size) (fun k hk => by have := (ho2.lt k hk).1; simp at this; omega))
  obtain ⟨ua, uc, eu, _⟩ := ho2.rd
  subst eu
  clear ho2 hb2 hbx2 hbx1 hB1
  go_wp2_with fail
  refine (reftext_any (.slice ad L cp) x.b w2 (HRD.out.below HB2.out) (by have := HRO.out; omega)).mono ?_
  rintro e w3 ⟨t3, rfl, ho3, hb3⟩
  have hs3 := hb3.size
  have HO23 := hid (HO2.out.below hb3)
  have HB3 := hid (HB2.out.trans (hb3.mono (by omega)))
  have HT3 := hid ho3.rd
  have HEQ := hid (show Note.nums (4 :: [x.n, x.e, x.l, x.s, x.a, 0]) ++ Ink.text x.b = x.enc from by unfold Note.P.enc Note.enc Note.tail Note.P.ns; rw [HP.out]; rfl)
  have HTL := hid (show (Ink.text x.b).length ≤ 10000 from by unfold Ink.text; rw [List.length_append]; have := (Ink.num_length x.b.length).1; have := HRO.out; omega)
  obtain ⟨ta, tc, et, _⟩ := ho3.rd
  subst et
  clear ho3 hb3 hc6
  go_wp2_with (at_builtin; go_must (refine appk rfl (.tmp 44) (.tmp 47) rfl w.heap.size _ _ (Note.nums (4 :: [x.n, x.e, x.l, x.s, x.a, 0])) (Ink.text x.b) x.enc _ rfl rfl HO23.out HT3.out rfl HEQ.out (by have := HNL.out; have := HTL.out; omega) (by omega) ?_); intro ad4 cp4 w4 ho4 hg4)
  have HB4 := hid (HO23.out.grown HB3.out hg4 (Nat.le_refl _) (by omega))
  have hs4 := HB4.out.size
  clear hg4
  refine (reftie_any _ x.enc w4 ho4.rd HEL.out).mono ?_
  rintro e w5 ⟨kv, rfl, ho5, hb5⟩
  have hB5 := HB4.out.trans (hb5.mono (by omega))
  go_wp2
  go_ret2
  exact ⟨kv, rfl, ho5.base (fun k hk => by have := (ho5.lt k hk).1; omega), hB5⟩

set_option maxRecDepth 100000 in
set_option maxHeartbeats 4000000 in
theorem refpacket_yes1 (x : Note.P) (ad : Option Addr) (cp L : Nat) (hL : L = x.b.length) (w : World) (hx : x.wf) (hrd : Rd w (.slice ad L cp) x.b) (hr : x.right = true) (hp : x.p = true) :
    Calls Try.prog 16 #[.agg #[.int .u8 (x.n : Int), .int .u32 (x.e : Int), .int .u32 (x.l : Int), .int .u32 (x.s : Int), .int .u32 (x.a : Int), .bool true, .slice ad L cp]] w fun e w' => ∃ kv, e = .returned (.tuple #[kv, .int .i64 0]) ∧ Own w' w.heap.size kv (Knot.knot x.enc) ∧ Below w.heap.size w w' := by
  have HEL := hid (show x.enc.length ≤ 2048 from x.enc_length hx hr)
  obtain ⟨b0, b1, b2, b3, b4⟩ := hx
  have HRO := hid (Note.P.right_of x hr)
  have hcs := hr
  unfold Note.P.right at hcs
  rw [hp] at hcs
  simp only [Bool.and_eq_true, decide_eq_true_eq, Bool.not_eq_true'] at hcs
  have q2 : ((x.s : Int) != 0) = false := by rw [bne_eq_false_iff_eq]; have := hcs.2; simp at this; omega
  have HL := hid hL
  have HRD := hid hrd
  have HP := hid hp
  clear hr hL hrd hcs hp
  have d0 : ¬ 15 < (x.n : Int) := by have := HRO.out.1; omega
  have d1 : ¬ 1984 < (L : Int) := by have := HRO.out.2; have := HL.out; omega
  obtain ⟨w1, hwb⟩ : ∃ w1, w1 = w.alloc (.cells #[.int .u8 (x.n : Int), .int .u32 (x.e : Int), .int .u32 (x.l : Int), .int .u32 (x.s : Int), .int .u32 (x.a : Int), .bool true, .slice ad L cp] 38) := ⟨_, rfl⟩
  have hbx1 : w1.heap[w.heap.size]? = some (.cells #[.int .u8 (x.n : Int), .int .u32 (x.e : Int), .int .u32 (x.l : Int), .int .u32 (x.s : Int), .int .u32 (x.a : Int), .bool true, .slice ad L cp] 38 (0, 0)) := by rw [hwb]; exact heap_alloc_new w _
  have hB1 : Below w.heap.size w w1 := by rw [hwb]; exact (Below.refl _ _).alloc (Nat.le_refl _) _
  have HWB := hid hwb
  have HSZ1 := hid (show w1.heap.size = w.heap.size + 1 by rw [hwb]; simp)
  clear hwb
  have HU := hid (show (w1.alloc (.cells ([x.n, x.e, x.l, x.s, x.a, 1].map (fun n : Nat => Value.int .u64 (n : Int))).toArray 71)).heap[w.heap.size + 1]? = some (.cells ([x.n, x.e, x.l, x.s, x.a, 1].map (fun n : Nat => Value.int .u64 (n : Int))).toArray 71) from by have h := heap_alloc_new w1 (.cells ([x.n, x.e, x.l, x.s, x.a, 1].map (fun n : Nat => Value.int .u64 (n : Int))).toArray 71); rwa [HSZ1.out] at h)
  have HF := hid (show fits64 [x.n, x.e, x.l, x.s, x.a, 1] from by
    intro j hj
    have hj2 : j = 0 ∨ j = 1 ∨ j = 2 ∨ j = 3 ∨ j = 4 ∨ j = 5 := by simp at hj; omega
    rcases hj2 with rfl | rfl | rfl | rfl | rfl | rfl
    all_goals simp
    all_goals omega)
  have HBA := hid (hB1.alloc hB1.size (.cells ([x.n, x.e, x.l, x.s, x.a, 1].map (fun n : Nat => Value.int .u64 (n : Int))).toArray 71))
  have HBX := hid ((Below.heap_alloc w1 (.cells ([x.n, x.e, x.l, x.s, x.a, 1].map (fun n : Nat => Value.int .u64 (n : Int))).toArray 71) w.heap.size (by have := HSZ1.out; omega)).trans hbx1)
  go_enter Try.func16, Try.ntmps16
  go_wp2_with fail
  rw [← HWB.out]
  refine (refnums_any (w.heap.size + 1) 4 [x.n, x.e, x.l, x.s, x.a, 1] _ HU.out (by omega) (by simp) HF.out 6 rfl 4 rfl).mono ?_
  rintro e w2 ⟨u2, rfl, ho2, hb2⟩
  have hs2 := hb2.size
  simp at hs2
  have hs1 := HSZ1.out
  have hbx2 := (hb2.block w.heap.size (by simp <;> omega)).trans HBX.out
  have HB2 := hid (HBA.out.trans (hb2.mono (by simp; omega)))
  have hc6 : w2.cell? ⟨w.heap.size, 6, none⟩ = some (.slice ad L cp) := (cell_of_row _ _ _ _ _ _ hbx2).trans rfl
  have HNL := hid (show (Note.nums (4 :: [x.n, x.e, x.l, x.s, x.a, 1])).length ≤ 1000 from by have := Note.nums_length (4 :: [x.n, x.e, x.l, x.s, x.a, 1]); simp at this; omega)
  have HO2 := hid (ho2.base (b' := w.heap.size) (fun k hk => by have := (ho2.lt k hk).1; simp at this; omega))
  obtain ⟨ua, uc, eu, _⟩ := ho2.rd
  subst eu
  clear ho2 hb2 hbx2 hbx1 hB1
  go_wp2_with fail
  refine (reftext_any (.slice ad L cp) x.b w2 (HRD.out.below HB2.out) (by have := HRO.out; omega)).mono ?_
  rintro e w3 ⟨t3, rfl, ho3, hb3⟩
  have hs3 := hb3.size
  have HO23 := hid (HO2.out.below hb3)
  have HB3 := hid (HB2.out.trans (hb3.mono (by omega)))
  have HT3 := hid ho3.rd
  have HEQ := hid (show Note.nums (4 :: [x.n, x.e, x.l, x.s, x.a, 1]) ++ Ink.text x.b = x.enc from by unfold Note.P.enc Note.enc Note.tail Note.P.ns; rw [HP.out]; rfl)
  have HTL := hid (show (Ink.text x.b).length ≤ 10000 from by unfold Ink.text; rw [List.length_append]; have := (Ink.num_length x.b.length).1; have := HRO.out; omega)
  obtain ⟨ta, tc, et, _⟩ := ho3.rd
  subst et
  clear ho3 hb3 hc6
  go_wp2_with (at_builtin; go_must (refine appk rfl (.tmp 44) (.tmp 47) rfl w.heap.size _ _ (Note.nums (4 :: [x.n, x.e, x.l, x.s, x.a, 1])) (Ink.text x.b) x.enc _ rfl rfl HO23.out HT3.out rfl HEQ.out (by have := HNL.out; have := HTL.out; omega) (by omega) ?_); intro ad4 cp4 w4 ho4 hg4)
  have HB4 := hid (HO23.out.grown HB3.out hg4 (Nat.le_refl _) (by omega))
  have hs4 := HB4.out.size
  clear hg4
  refine (reftie_any _ x.enc w4 ho4.rd HEL.out).mono ?_
  rintro e w5 ⟨kv, rfl, ho5, hb5⟩
  have hB5 := HB4.out.trans (hb5.mono (by omega))
  go_wp2
  go_ret2
  exact ⟨kv, rfl, ho5.base (fun k hk => by have := (ho5.lt k hk).1; omega), hB5⟩

theorem refpacket_yes (x : Note.P) (ad : Option Addr) (cp L : Nat) (hL : L = x.b.length) (w : World) (hx : x.wf) (hrd : Rd w (.slice ad L cp) x.b) (hr : x.right = true) :
    Calls Try.prog 16 #[.agg #[.int .u8 (x.n : Int), .int .u32 (x.e : Int), .int .u32 (x.l : Int), .int .u32 (x.s : Int), .int .u32 (x.a : Int), .bool x.p, .slice ad L cp]] w fun e w' => ∃ kv, e = .returned (.tuple #[kv, .int .i64 0]) ∧ Own w' w.heap.size kv (Knot.knot x.enc) ∧ Below w.heap.size w w' := by
  cases hp : x.p
  · exact refpacket_yes0 x ad cp L hL w hx hrd hr hp
  · exact refpacket_yes1 x ad cp L hL w hx hrd hr hp

set_option maxRecDepth 100000 in
set_option maxHeartbeats 4000000 in
theorem samepacket_eq (x : Note.P) (ad ad2 : Option Addr) (cp cp2 L : Nat) (w : World) (h1 : Rd w (.slice ad L cp) x.b) (h2 : Rd w (.slice ad2 L cp2) x.b) :
    Calls Try.prog 17 #[.agg #[.int .u8 (x.n : Int), .int .u32 (x.e : Int), .int .u32 (x.l : Int), .int .u32 (x.s : Int), .int .u32 (x.a : Int), .bool x.p, .slice ad L cp], .agg #[.int .u8 (x.n : Int), .int .u32 (x.e : Int), .int .u32 (x.l : Int), .int .u32 (x.s : Int), .int .u32 (x.a : Int), .bool x.p, .slice ad2 L cp2]] w fun e w' => e = .returned (.bool true) ∧ Below w.heap.size w w' := by
  have H1 := hid (fun (o1 o2 : Obj) => (h1.alloc o1).alloc o2)
  have H2 := hid (fun (o1 o2 : Obj) => (h2.alloc o1).alloc o2)
  clear h1 h2
  cases x.p
  all_goals
    go_enter Try.func17, Try.ntmps17
    go_wp2_with fail
    refine (same_eq _ _ x.b _ (H1.out _ _) (H2.out _ _)).mono ?_
    rintro e w' ⟨rfl, rfl⟩
    go_wp2
    go_ret
    exact ⟨rfl, ((Below.refl w.heap.size w).alloc (Nat.le_refl _) _).alloc (by simp) _⟩

end Go.Proofs.Ytafpgglebjllbaa
