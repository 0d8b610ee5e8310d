/-
  Two notes, two packets: alike or not: contracts.
-/
import Derived.Test.YtafpgglebjllbaaNoteNk
import Derived.Test.YtafpgglebjllbaaNotePk
namespace Go.Proofs.Ytafpgglebjllbaa
open Go.RowKit

def Note.N.same (x y : Note.N) : Bool := decide (x.k = y.k) && decide (x.n = y.n) && decide (x.e = y.e) && decide (x.l = y.l) && decide (x.t = y.t) && decide (x.g = y.g) && decide (x.j = y.j) && decide (x.v = y.v) && decide (x.r = y.r) && decide (x.c = y.c) && decide (x.f = y.f) && decide (x.o = y.o) && (x.b == y.b)

theorem Note.N.same_iff (x y : Note.N) : x.same y = true ↔ x = y := by
  unfold Note.N.same
  simp only [Bool.and_eq_true, decide_eq_true_eq, beq_iff_eq]
  constructor
  · rintro ⟨⟨⟨⟨⟨⟨⟨⟨⟨⟨⟨⟨h0, h1⟩, h2⟩, h3⟩, h4⟩, h5⟩, h6⟩, h7⟩, h8⟩, h9⟩, h10⟩, h11⟩, hb⟩
    cases x; cases y; simp_all
  · rintro rfl; simp

set_option maxRecDepth 100000 in
set_option maxHeartbeats 8000000 in
theorem samenote_any (x y : Note.N) (ad ad2 : Option Addr) (cp cp2 L L2 : Nat) (w : World) (h1 : Rd w (.slice ad L cp) x.b) (h2 : Rd w (.slice ad2 L2 cp2) y.b) :
    Calls Try.prog 13 #[.agg #[.int .u8 (x.k : Int), .int .u8 (x.n : Int), .int .u32 (x.e : Int), .int .u32 (x.l : Int), .int .u32 (x.t : Int), .int .u32 (x.g : Int), .int .u32 (x.j : Int), .int .u32 (x.v : Int), .int .u8 (x.r : Int), .int .i64 x.c, .int .u32 (x.f : Int), .int .u32 (x.o : Int), .slice ad L cp], .agg #[.int .u8 (y.k : Int), .int .u8 (y.n : Int), .int .u32 (y.e : Int), .int .u32 (y.l : Int), .int .u32 (y.t : Int), .int .u32 (y.g : Int), .int .u32 (y.j : Int), .int .u32 (y.v : Int), .int .u8 (y.r : Int), .int .i64 y.c, .int .u32 (y.f : Int), .int .u32 (y.o : Int), .slice ad2 L2 cp2]] w fun e w' => e = .returned (.bool (x.same y)) ∧ Below w.heap.size w w' := by
  have H1 := hid (fun (o1 o2 : Obj) => (h1.alloc o1).alloc o2)
  have H2 := hid (fun (o1 o2 : Obj) => (h2.alloc o1).alloc o2)
  obtain ⟨x0, x1, x2, x3, x4, x5, x6, x7, x8, x9, x10, x11, xb⟩ := x
  obtain ⟨y0, y1, y2, y3, y4, y5, y6, y7, y8, y9, y10, y11, yb⟩ := y
  simp only at h1 h2 H1 H2 ⊢
  clear h1 h2
  by_cases c0 : x0 = y0
  · subst c0
    by_cases c1 : x1 = y1
    · subst c1
      by_cases c2 : x2 = y2
      · subst c2
        by_cases c3 : x3 = y3
        · subst c3
          by_cases c4 : x4 = y4
          · subst c4
            by_cases c5 : x5 = y5
            · subst c5
              by_cases c6 : x6 = y6
              · subst c6
                by_cases c7 : x7 = y7
                · subst c7
                  by_cases c8 : x8 = y8
                  · subst c8
                    by_cases c9 : x9 = y9
                    · subst c9
                      by_cases c10 : x10 = y10
                      · subst c10
                        by_cases c11 : x11 = y11
                        · subst c11
                          have HE := hid (show Note.N.same ⟨x0, x1, x2, x3, x4, x5, x6, x7, x8, x9, x10, x11, xb⟩ ⟨x0, x1, x2, x3, x4, x5, x6, x7, x8, x9, x10, x11, yb⟩ = (xb == yb) by unfold Note.N.same; simp)
                          rw [HE.out]
                          skip
                          all_goals
                            go_enter Try.func13, Try.ntmps13
                            go_wp2_with fail
                            refine (same_any _ _ xb yb _ (H1.out _ _) (H2.out _ _)).mono ?_
                            rintro e w' ⟨rfl, rfl⟩
                            go_wp2
                            go_ret
                            exact ⟨rfl, ((Below.refl w.heap.size w).alloc (Nat.le_refl _) _).alloc (by simp) _⟩
                        · have HE := hid (show Note.N.same ⟨x0, x1, x2, x3, x4, x5, x6, x7, x8, x9, x10, x11, xb⟩ ⟨x0, x1, x2, x3, x4, x5, x6, x7, x8, x9, x10, y11, yb⟩ = false by unfold Note.N.same; simp [c11])
                          rw [HE.out]
                          have q11 : ((x11 : Int) == (y11 : Int)) = false := by rw [beq_eq_false_iff_ne]; omega
                          go_enter Try.func13, Try.ntmps13
                          go_wp2
                          go_ret
                          exact ⟨rfl, ((Below.refl w.heap.size w).alloc (Nat.le_refl _) _).alloc (by simp) _⟩
                      · have HE := hid (show Note.N.same ⟨x0, x1, x2, x3, x4, x5, x6, x7, x8, x9, x10, x11, xb⟩ ⟨x0, x1, x2, x3, x4, x5, x6, x7, x8, x9, y10, y11, yb⟩ = false by unfold Note.N.same; simp [c10])
                        rw [HE.out]
                        have q10 : ((x10 : Int) == (y10 : Int)) = false := by rw [beq_eq_false_iff_ne]; omega
                        go_enter Try.func13, Try.ntmps13
                        go_wp2
                        go_ret
                        exact ⟨rfl, ((Below.refl w.heap.size w).alloc (Nat.le_refl _) _).alloc (by simp) _⟩
                    · have HE := hid (show Note.N.same ⟨x0, x1, x2, x3, x4, x5, x6, x7, x8, x9, x10, x11, xb⟩ ⟨x0, x1, x2, x3, x4, x5, x6, x7, x8, y9, y10, y11, yb⟩ = false by unfold Note.N.same; simp [c9])
                      rw [HE.out]
                      have q9 : (x9 == y9) = false := by rw [beq_eq_false_iff_ne]; exact c9
                      go_enter Try.func13, Try.ntmps13
                      go_wp2
                      go_ret
                      exact ⟨rfl, ((Below.refl w.heap.size w).alloc (Nat.le_refl _) _).alloc (by simp) _⟩
                  · have HE := hid (show Note.N.same ⟨x0, x1, x2, x3, x4, x5, x6, x7, x8, x9, x10, x11, xb⟩ ⟨x0, x1, x2, x3, x4, x5, x6, x7, y8, y9, y10, y11, yb⟩ = false by unfold Note.N.same; simp [c8])
                    rw [HE.out]
                    have q8 : ((x8 : Int) == (y8 : Int)) = false := by rw [beq_eq_false_iff_ne]; omega
                    go_enter Try.func13, Try.ntmps13
                    go_wp2
                    go_ret
                    exact ⟨rfl, ((Below.refl w.heap.size w).alloc (Nat.le_refl _) _).alloc (by simp) _⟩
                · have HE := hid (show Note.N.same ⟨x0, x1, x2, x3, x4, x5, x6, x7, x8, x9, x10, x11, xb⟩ ⟨x0, x1, x2, x3, x4, x5, x6, y7, y8, y9, y10, y11, yb⟩ = false by unfold Note.N.same; simp [c7])
                  rw [HE.out]
                  have q7 : ((x7 : Int) == (y7 : Int)) = false := by rw [beq_eq_false_iff_ne]; omega
                  go_enter Try.func13, Try.ntmps13
                  go_wp2
                  go_ret
                  exact ⟨rfl, ((Below.refl w.heap.size w).alloc (Nat.le_refl _) _).alloc (by simp) _⟩
              · have HE := hid (show Note.N.same ⟨x0, x1, x2, x3, x4, x5, x6, x7, x8, x9, x10, x11, xb⟩ ⟨x0, x1, x2, x3, x4, x5, y6, y7, y8, y9, y10, y11, yb⟩ = false by unfold Note.N.same; simp [c6])
                rw [HE.out]
                have q6 : ((x6 : Int) == (y6 : Int)) = false := by rw [beq_eq_false_iff_ne]; omega
                go_enter Try.func13, Try.ntmps13
                go_wp2
                go_ret
                exact ⟨rfl, ((Below.refl w.heap.size w).alloc (Nat.le_refl _) _).alloc (by simp) _⟩
            · have HE := hid (show Note.N.same ⟨x0, x1, x2, x3, x4, x5, x6, x7, x8, x9, x10, x11, xb⟩ ⟨x0, x1, x2, x3, x4, y5, y6, y7, y8, y9, y10, y11, yb⟩ = false by unfold Note.N.same; simp [c5])
              rw [HE.out]
              have q5 : ((x5 : Int) == (y5 : Int)) = false := by rw [beq_eq_false_iff_ne]; omega
              go_enter Try.func13, Try.ntmps13
              go_wp2
              go_ret
              exact ⟨rfl, ((Below.refl w.heap.size w).alloc (Nat.le_refl _) _).alloc (by simp) _⟩
          · have HE := hid (show Note.N.same ⟨x0, x1, x2, x3, x4, x5, x6, x7, x8, x9, x10, x11, xb⟩ ⟨x0, x1, x2, x3, y4, y5, y6, y7, y8, y9, y10, y11, yb⟩ = false by unfold Note.N.same; simp [c4])
            rw [HE.out]
            have q4 : ((x4 : Int) == (y4 : Int)) = false := by rw [beq_eq_false_iff_ne]; omega
            go_enter Try.func13, Try.ntmps13
            go_wp2
            go_ret
            exact ⟨rfl, ((Below.refl w.heap.size w).alloc (Nat.le_refl _) _).alloc (by simp) _⟩
        · have HE := hid (show Note.N.same ⟨x0, x1, x2, x3, x4, x5, x6, x7, x8, x9, x10, x11, xb⟩ ⟨x0, x1, x2, y3, y4, y5, y6, y7, y8, y9, y10, y11, yb⟩ = false by unfold Note.N.same; simp [c3])
          rw [HE.out]
          have q3 : ((x3 : Int) == (y3 : Int)) = false := by rw [beq_eq_false_iff_ne]; omega
          go_enter Try.func13, Try.ntmps13
          go_wp2
          go_ret
          exact ⟨rfl, ((Below.refl w.heap.size w).alloc (Nat.le_refl _) _).alloc (by simp) _⟩
      · have HE := hid (show Note.N.same ⟨x0, x1, x2, x3, x4, x5, x6, x7, x8, x9, x10, x11, xb⟩ ⟨x0, x1, y2, y3, y4, y5, y6, y7, y8, y9, y10, y11, yb⟩ = false by unfold Note.N.same; simp [c2])
        rw [HE.out]
        have q2 : ((x2 : Int) == (y2 : Int)) = false := by rw [beq_eq_false_iff_ne]; omega
        go_enter Try.func13, Try.ntmps13
        go_wp2
        go_ret
        exact ⟨rfl, ((Below.refl w.heap.size w).alloc (Nat.le_refl _) _).alloc (by simp) _⟩
    · have HE := hid (show Note.N.same ⟨x0, x1, x2, x3, x4, x5, x6, x7, x8, x9, x10, x11, xb⟩ ⟨x0, y1, y2, y3, y4, y5, y6, y7, y8, y9, y10, y11, yb⟩ = false by unfold Note.N.same; simp [c1])
      rw [HE.out]
      have q1 : ((x1 : Int) == (y1 : Int)) = false := by rw [beq_eq_false_iff_ne]; omega
      go_enter Try.func13, Try.ntmps13
      go_wp2
      go_ret
      exact ⟨rfl, ((Below.refl w.heap.size w).alloc (Nat.le_refl _) _).alloc (by simp) _⟩
  · have HE := hid (show Note.N.same ⟨x0, x1, x2, x3, x4, x5, x6, x7, x8, x9, x10, x11, xb⟩ ⟨y0, y1, y2, y3, y4, y5, y6, y7, y8, y9, y10, y11, yb⟩ = false by unfold Note.N.same; simp [c0])
    rw [HE.out]
    have q0 : ((x0 : Int) == (y0 : Int)) = false := by rw [beq_eq_false_iff_ne]; omega
    go_enter Try.func13, Try.ntmps13
    go_wp2
    go_ret
    exact ⟨rfl, ((Below.refl w.heap.size w).alloc (Nat.le_refl _) _).alloc (by simp) _⟩

def Note.P.same (x y : Note.P) : Bool := decide (x.n = y.n) && decide (x.e = y.e) && decide (x.l = y.l) && decide (x.s = y.s) && decide (x.a = y.a) && decide (x.p = y.p) && (x.b == y.b)

theorem Note.P.same_iff (x y : Note.P) : x.same y = true ↔ x = y := by
  unfold Note.P.same
  simp only [Bool.and_eq_true, decide_eq_true_eq, beq_iff_eq]
  constructor
  · rintro ⟨⟨⟨⟨⟨⟨h0, h1⟩, h2⟩, h3⟩, h4⟩, h5⟩, hb⟩
    cases x; cases y; simp_all
  · rintro rfl; simp

set_option maxRecDepth 100000 in
set_option maxHeartbeats 8000000 in
theorem samepacket_any (x y : Note.P) (ad ad2 : Option Addr) (cp cp2 L L2 : Nat) (w : World) (h1 : Rd w (.slice ad L cp) x.b) (h2 : Rd w (.slice ad2 L2 cp2) y.b) :
    Calls Try.prog 17 #[.agg #[.int .u8 (x.n : Int), .int .u32 (x.e : Int), .int .u32 (x.l : Int), .int .u32 (x.s : Int), .int .u32 (x.a : Int), .bool x.p, .slice ad L cp], .agg #[.int .u8 (y.n : Int), .int .u32 (y.e : Int), .int .u32 (y.l : Int), .int .u32 (y.s : Int), .int .u32 (y.a : Int), .bool y.p, .slice ad2 L2 cp2]] w fun e w' => e = .returned (.bool (x.same y)) ∧ Below w.heap.size w w' := by
  have H1 := hid (fun (o1 o2 : Obj) => (h1.alloc o1).alloc o2)
  have H2 := hid (fun (o1 o2 : Obj) => (h2.alloc o1).alloc o2)
  obtain ⟨x0, x1, x2, x3, x4, x5, xb⟩ := x
  obtain ⟨y0, y1, y2, y3, y4, y5, yb⟩ := y
  simp only at h1 h2 H1 H2 ⊢
  clear h1 h2
  by_cases c0 : x0 = y0
  · subst c0
    by_cases c1 : x1 = y1
    · subst c1
      by_cases c2 : x2 = y2
      · subst c2
        by_cases c3 : x3 = y3
        · subst c3
          by_cases c4 : x4 = y4
          · subst c4
            by_cases c5 : x5 = y5
            · subst c5
              have HE := hid (show Note.P.same ⟨x0, x1, x2, x3, x4, x5, xb⟩ ⟨x0, x1, x2, x3, x4, x5, yb⟩ = (xb == yb) by unfold Note.P.same; simp)
              rw [HE.out]
              cases x5
              all_goals
                go_enter Try.func17, Try.ntmps17
                go_wp2_with fail
                refine (same_any _ _ xb yb _ (H1.out _ _) (H2.out _ _)).mono ?_
                rintro e w' ⟨rfl, rfl⟩
                go_wp2
                go_ret
                exact ⟨rfl, ((Below.refl w.heap.size w).alloc (Nat.le_refl _) _).alloc (by simp) _⟩
            · have HE := hid (show Note.P.same ⟨x0, x1, x2, x3, x4, x5, xb⟩ ⟨x0, x1, x2, x3, x4, y5, yb⟩ = false by unfold Note.P.same; simp [c5])
              rw [HE.out]
              cases x5 <;> cases y5
              · exact absurd rfl c5
              · clear c5
                go_enter Try.func17, Try.ntmps17
                go_wp2
                go_ret
                exact ⟨rfl, ((Below.refl w.heap.size w).alloc (Nat.le_refl _) _).alloc (by simp) _⟩
              · clear c5
                go_enter Try.func17, Try.ntmps17
                go_wp2
                go_ret
                exact ⟨rfl, ((Below.refl w.heap.size w).alloc (Nat.le_refl _) _).alloc (by simp) _⟩
              · exact absurd rfl c5
          · have HE := hid (show Note.P.same ⟨x0, x1, x2, x3, x4, x5, xb⟩ ⟨x0, x1, x2, x3, y4, y5, yb⟩ = false by unfold Note.P.same; simp [c4])
            rw [HE.out]
            have q4 : ((x4 : Int) == (y4 : Int)) = false := by rw [beq_eq_false_iff_ne]; omega
            go_enter Try.func17, Try.ntmps17
            go_wp2
            go_ret
            exact ⟨rfl, ((Below.refl w.heap.size w).alloc (Nat.le_refl _) _).alloc (by simp) _⟩
        · have HE := hid (show Note.P.same ⟨x0, x1, x2, x3, x4, x5, xb⟩ ⟨x0, x1, x2, y3, y4, y5, yb⟩ = false by unfold Note.P.same; simp [c3])
          rw [HE.out]
          have q3 : ((x3 : Int) == (y3 : Int)) = false := by rw [beq_eq_false_iff_ne]; omega
          go_enter Try.func17, Try.ntmps17
          go_wp2
          go_ret
          exact ⟨rfl, ((Below.refl w.heap.size w).alloc (Nat.le_refl _) _).alloc (by simp) _⟩
      · have HE := hid (show Note.P.same ⟨x0, x1, x2, x3, x4, x5, xb⟩ ⟨x0, x1, y2, y3, y4, y5, yb⟩ = false by unfold Note.P.same; simp [c2])
        rw [HE.out]
        have q2 : ((x2 : Int) == (y2 : Int)) = false := by rw [beq_eq_false_iff_ne]; omega
        go_enter Try.func17, Try.ntmps17
        go_wp2
        go_ret
        exact ⟨rfl, ((Below.refl w.heap.size w).alloc (Nat.le_refl _) _).alloc (by simp) _⟩
    · have HE := hid (show Note.P.same ⟨x0, x1, x2, x3, x4, x5, xb⟩ ⟨x0, y1, y2, y3, y4, y5, yb⟩ = false by unfold Note.P.same; simp [c1])
      rw [HE.out]
      have q1 : ((x1 : Int) == (y1 : Int)) = false := by rw [beq_eq_false_iff_ne]; omega
      go_enter Try.func17, Try.ntmps17
      go_wp2
      go_ret
      exact ⟨rfl, ((Below.refl w.heap.size w).alloc (Nat.le_refl _) _).alloc (by simp) _⟩
  · have HE := hid (show Note.P.same ⟨x0, x1, x2, x3, x4, x5, xb⟩ ⟨y0, y1, y2, y3, y4, y5, yb⟩ = false by unfold Note.P.same; simp [c0])
    rw [HE.out]
    have q0 : ((x0 : Int) == (y0 : Int)) = false := by rw [beq_eq_false_iff_ne]; omega
    go_enter Try.func17, Try.ntmps17
    go_wp2
    go_ret
    exact ⟨rfl, ((Below.refl w.heap.size w).alloc (Nat.le_refl _) _).alloc (by simp) _⟩

end Go.Proofs.Ytafpgglebjllbaa
