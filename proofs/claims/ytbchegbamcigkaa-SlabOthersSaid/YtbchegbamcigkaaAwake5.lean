/-
  quadrillelaw05.awake: the document's example.
-/
import Derived.Test.YtbchegbamcigkaaSlabX
namespace Go.Proofs.Ytbchegbamcigkaa
open Go.RowKit

def aw0 : Sl := Sl.new 2
def aw1 : Sl := (aw0.write 0 [1, 2]).1
def aw2 : Sl := aw1.flushed.1
def aw3 : Sl := (aw2.write 0 [3, 4]).1
def aw4 : Sl := aw3.crash [2] 1

theorem aw_facts : (aw0.write 0 [1, 2]).2 = 0 ∧ aw1.flushed.2 = 0 ∧ (aw2.write 0 [3, 4]).2 = 0 ∧ (aw4.read 0).2 = 0 ∧ (aw4.read 0).1 = 3 :: 2 :: List.replicate 126 0 ∧ aw0.steps ≤ 1000000 ∧ aw1.steps ≤ 1000000 ∧ aw2.steps ≤ 1000000 ∧ aw0.way.length < 1000000 ∧ aw2.way.length < 1000000 := by
  decide +kernel

set_option maxHeartbeats 1000000 in
theorem awake5_any (w : World) :
    Calls Try.prog 14 #[] w fun e w' => e = .returned (.bool true) ∧ Below w.heap.size w w' := by
  obtain ⟨f1, f2, f3, f4, f5, g1, g2, g3, g4, g5⟩ := aw_facts
  have F1 := hid f1
  have F2 := hid f2
  have F3 := hid f3
  have F4 := hid f4
  have F5 := hid f5
  clear f1 f2 f3 f4 f5
  go_enter Try.func14, Try.ntmps14
  go_wp2_with fail
  refine (new_yes 2 w (by omega) (by omega)).mono ?_
  rintro e w1 ⟨b, bn, bd, rfl, h1, hb1⟩
  have H1 := hid h1
  have B1 := hid hb1
  have hs1 := hb1.size
  clear h1 hb1
  go_wp2_with fail
  refine (write_all w.heap.size b bn bd _ aw0 0 _ [1, 2] _ (H1.out.below ((Below.refl _ _).alloc (Nat.le_refl _) _)) g1 g4 (Rd.two w1 1 2 1 2 rfl rfl)).mono ?_
  rintro e w2 ⟨wv2, rfl, h2, hk2⟩
  rw [F1.out]
  have H2 := hid (show SlabAt w2 w.heap.size b bn bd wv2 aw1 from h2)
  have B2 := hid ((B1.out.alloc hs1 _).trans ((H1.out.below ((Below.refl _ _).alloc (Nat.le_refl _) _)).keep hk2))
  have hs2 := B2.out.size
  clear h2 hk2
  go_wp2_with fail
  refine (flush_all w.heap.size b bn bd _ aw1 w2 H2.out g2).mono ?_
  rintro e w3 ⟨wv3, rfl, h3, hk3⟩
  rw [F2.out]
  have H3 := hid (show SlabAt w3 w.heap.size b bn bd wv3 aw2 from h3)
  have B3 := hid (B2.out.trans (H2.out.keep hk3))
  have hs3 := B3.out.size
  clear h3 hk3
  go_wp2_with fail
  refine (write_all w.heap.size b bn bd _ aw2 0 _ [3, 4] _ (H3.out.below ((Below.refl _ _).alloc (Nat.le_refl _) _)) g3 g5 (Rd.two w3 3 4 3 4 rfl rfl)).mono ?_
  rintro e w4 ⟨wv4, rfl, h4, hk4⟩
  rw [F3.out]
  have H4 := hid (show SlabAt w4 w.heap.size b bn bd wv4 aw3 from h4)
  have B4 := hid ((B3.out.alloc hs3 _).trans ((H3.out.below ((Below.refl _ _).alloc (Nat.le_refl _) _)).keep hk4))
  have hs4 := B4.out.size
  clear h4 hk4
  go_wp2_with fail
  refine (crash_all w.heap.size b bn bd _ aw3 _ [2] 1 _ (H4.out.below ((Below.refl _ _).alloc (Nat.le_refl _) _)) (Rd.one w4 2 2 rfl) (fun _ k hk => by
    have : w4.heap.size = k := Option.some.inj hk
    have := H4.out.size
    omega)).mono ?_
  rintro e w5 ⟨rfl, h5, hk5⟩
  have H5 := hid (show SlabAt w5 w.heap.size b bn bd (.slice none 0 0) aw4 from h5)
  have B5 := hid ((B4.out.alloc hs4 _).trans ((H4.out.below ((Below.refl _ _).alloc (Nat.le_refl _) _)).keep hk5))
  have hs5 := B5.out.size
  clear h5 hk5
  go_wp2_with fail
  refine (read_all w.heap.size b bn bd _ aw4 0 w5 H5.out).mono ?_
  rintro e w6 ⟨v, rfl, ha⟩
  rw [F4.out, F5.out] at ha
  rw [F4.out]
  rcases ha with ⟨h0, _⟩ | ⟨_, hl, g, rfl, hg, hgl, hb6⟩
  · exact absurd rfl h0
  have e0 : w6.cell? ⟨g, 0, none⟩ = some (.int .u8 3) := by rw [cell_of_row _ _ _ _ _ _ hg]; simp [bv]
  have e1 : w6.cell? ⟨g, 1, none⟩ = some (.int .u8 2) := by rw [cell_of_row _ _ _ _ _ _ hg]; simp [bv]
  have B6 := hid (B5.out.trans (hb6.mono hs5))
  clear hg hb6 hl
  go_wp2
  go_ret
  exact ⟨rfl, B6.out⟩

end Go.Proofs.Ytbchegbamcigkaa
