/-
  quadrillelaw09.awake: the document's example.
-/
import Derived.Test.YtecnopopmonlpaaAirL
namespace Go.Proofs.Ytecnopopmonlpaa
open Go.RowKit
set_option linter.unusedVariables false

def ar0 : Ar := ⟨9, 0, []⟩
def ar1 : Ar := ar0.fly 1 []
def ar2 : Ar := ar1.fly 2 []
def ar3 : Ar := ar2.fly 1 []
def ar4 : Ar := ar3.fin 0

set_option maxHeartbeats 1000000 in
theorem awake9_any (w : World) :
    Calls Try.prog 7 #[] w fun e w' => e = .returned (.bool true) ∧ Below w.heap.size w w' := by
  go_enter Try.func7, Try.ntmps7
  go_wp2_with fail
  refine (airnew_yes 9 w w.heap.size (Nat.le_refl _) (by omega) (by omega)).mono ?_
  rintro e w1 ⟨rfl, h1, hb1⟩
  have H1 := hid (show AirAt w1 w.heap.size w.heap.size ar0 from h1)
  have hs1 := hb1.size
  have K1 := hid (KT.of_below (ts := airTs) hb1 (Nat.le_refl _))
  clear h1 hb1
  go_wp2_with fail
  refine (fly_yes w.heap.size w.heap.size ar0 1 none 0 [] w1 H1.out hs1 (Rd.nil _) (by decide) (by decide) (by decide)).mono ?_
  rintro e w2 ⟨rfl, h2, k2⟩
  have H2 := hid (show AirAt w2 w.heap.size w.heap.size ar1 from h2)
  have hs2 := k2.size
  have K2 := hid (K1.out.trans k2)
  clear h2 k2
  go_wp2_with fail
  refine (fly_yes w.heap.size w.heap.size ar1 2 none 0 [] w2 H2.out (show w.heap.size ≤ w2.heap.size by omega) (Rd.nil _) (by decide) (by decide) (by decide)).mono ?_
  rintro e w3 ⟨rfl, h3, k3⟩
  have H3 := hid (show AirAt w3 w.heap.size w.heap.size ar2 from h3)
  have hs3 := k3.size
  have K3 := hid (K2.out.trans k3)
  clear h3 k3
  go_wp2_with fail
  refine (echo_yes w.heap.size w.heap.size 0 ar2 ⟨1, 1, []⟩ w3 H3.out (show w.heap.size ≤ w3.heap.size by omega) rfl (by decide) (by decide)).mono ?_
  rintro e w4 ⟨rfl, h4, k4⟩
  rw [show ((ar2.last : Nat) : Int) + 1 = 3 from rfl]
  have H4 := hid (show AirAt w4 w.heap.size w.heap.size ar3 from h4)
  have hs4 := k4.size
  have K4 := hid (K3.out.trans k4)
  clear h4 k4
  go_wp2_with fail
  refine (land_yes w.heap.size w.heap.size 0 ar3 ⟨1, 1, []⟩ w4 H4.out (show w.heap.size ≤ w4.heap.size by omega) rfl).mono ?_
  rintro e w5 ⟨va, vc, rfl, _, h5, k5⟩
  have H5 := hid (show AirAt w5 w.heap.size w.heap.size ar4 from h5)
  have hs5 := k5.size
  have K5 := hid (K4.out.trans k5)
  clear h5 k5
  dsimp only
  go_wp2_with fail
  obtain ⟨w6, hw6⟩ : ∃ w6, w6 = w5.alloc (.cells #[.int .i64 1, .slice va ([] : List UInt8).length vc] 34) := ⟨_, rfl⟩
  have hb6 : Below w5.heap.size w5 w6 := by rw [hw6]; exact (Below.refl _ _).alloc (Nat.le_refl _) _
  have hg6 : w6.heap[w5.heap.size]? = some (.cells #[.int .i64 1, .slice va ([] : List UInt8).length vc] 34 (0, 0)) := by rw [hw6]; exact heap_alloc_new w5 _
  have x0 : w6.cell? ⟨w5.heap.size, 0, none⟩ = some (.int .i64 1) := (cell_of_row _ _ _ _ _ _ hg6).trans rfl
  rw [show w5.alloc (.cells #[.int .i64 1, .slice va 0 vc] 34) = w6 from hw6.symm]
  have H6 := hid (H5.out.below hb6)
  have K6 := hid (K5.out.trans (KT.of_below hb6 (by omega)))
  clear hw6 hb6 hg6
  refine (oldest_yes w.heap.size w.heap.size ar4 ⟨2, 2, []⟩ w6 H6.out rfl).mono ?_
  rintro e w7 ⟨rfl, rfl⟩
  go_wp2_with fail
  refine (at_yes w.heap.size w.heap.size 1 ar4 ⟨3, 1, []⟩ w6 H6.out rfl).mono ?_
  rintro e w7 ⟨rfl, rfl⟩
  go_wp2_with fail
  go_ret
  exact ⟨rfl, K6.out.below⟩

end Go.Proofs.Ytecnopopmonlpaa
