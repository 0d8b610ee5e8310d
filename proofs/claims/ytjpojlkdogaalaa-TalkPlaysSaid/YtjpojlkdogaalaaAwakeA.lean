/-
  quadrillelaw10.awake: the document's example.
-/
import Derived.Test.YtjpojlkdogaalaaTalkO
namespace Go.Proofs.Ytjpojlkdogaalaa
open Go.RowKit
set_option linter.unusedVariables false
set_option linter.unusedSimpArgs false

/-- Bytes of a new block. -/
theorem Far.one (w : World) (n : Nat) (x : UInt8) (fr : Nat × Nat) : Far (w.alloc (.cells #[.int .u8 (x.toNat : Int)] 5 fr)) n (.slice (some ⟨w.heap.size, 0, none⟩) 1 1) [x] := by
  refine ⟨Rd.lit w #[.int .u8 (x.toNat : Int)] fr [x] 1 rfl rfl (by simp [maxLen]), fun y len cap e hl => ?_⟩
  simp only [Value.slice.injEq, Option.some.injEq] at e
  rw [← e.1]
  exact .inr ⟨_, _, heap_alloc_new w _⟩

theorem pkb_new (w : World) : PkB (w.alloc (.cells #[.int .u8 0, .int .u32 0, .int .u32 0, .int .u32 0, .int .u32 0, .bool false, .slice none 0 0] 31)) w.heap.size := ⟨_, _, _, _, _, _, _, heap_alloc_new w _⟩

/-- A new variable that holds a packet. -/
theorem pk_var (w : World) (c0 c1 c2 c3 c4 c5 c6 : Value) : ∀ w1, w1 = (w.alloc (.cells #[.int .u8 0, .int .u32 0, .int .u32 0, .int .u32 0, .int .u32 0, .bool false, .slice none 0 0] 31)).setRow w.heap.size #[c0, c1, c2, c3, c4, c5, c6] →
    w1.heap[w.heap.size]? = some (.cells #[c0, c1, c2, c3, c4, c5, c6] 31 (0, 0)) ∧ Below w.heap.size w w1 ∧ w.heap.size < w1.heap.size := by
  rintro w1 rfl
  exact ⟨(pkb_new w).row _ _ _ _ _ _ _, ((Below.refl _ _).alloc (Nat.le_refl _) _).trans (setRow_below _ (Nat.le_refl _)), (Array.getElem?_eq_some_iff.1 ((pkb_new w).row c0 c1 c2 c3 c4 c5 c6)).1⟩

def tkN : Tk := Tk.new 1 1 1
def tkA1 : Tk := tkN.say [97]
def tkA2 : Tk := tkA1.say [98]
def kA1 : Pk := ⟨tkN.node, tkN.epoch, tkN.life, tkN.all.length + 1, tkN.heard, false, [97]⟩
def kA2 : Pk := ⟨tkA1.node, tkA1.epoch, tkA1.life, tkA1.all.length + 1, tkA1.heard, false, [98]⟩
def tkB1 : Tk := tkN.hear kA2

set_option maxHeartbeats 4000000 in
theorem awake10_any (w : World) :
    Calls Try.prog 9 #[] w fun e w' => e = .returned (.bool true) ∧ Below w.heap.size w w' := by
  have kc := fun (w : World) (C : Array Value) (n c : Nat) => Lib.run_convert_bytes_const (P := Try.prog) w 29 5 C n c Try.underlying29 Try.underlying5
  go_enter Try.func9, Try.ntmps9
  go_wp2_with fail
  refine (talknew_any 1 1 1 w w.heap.size (Nat.le_refl _)).mono ?_
  rintro e w1 ⟨rfl, h1, hb1⟩
  have HA1 := hid h1
  have HS1 := hid (show w.heap.size < w1.heap.size by obtain ⟨_, _, hh⟩ := h1; exact hh.lt)
  have HB1 := hid hb1
  clear h1 hb1
  go_wp2_with fail
  refine (talknew_any 1 1 1 w1 w1.heap.size (Nat.le_refl _)).mono ?_
  rintro e w2 ⟨rfl, h2, hb2⟩
  have HS2 := hid (show w1.heap.size < w2.heap.size by obtain ⟨_, _, hh⟩ := h2; exact hh.lt)
  have HQ0 := hid (show ∃ Q0 : Nat → Prop, ∀ k, Q0 k ↔ (w1.heap.size ≤ k ∧ k < w2.heap.size) from ⟨_, fun k => Iff.rfl⟩)
  obtain ⟨Q0, hQ0⟩ := HQ0.out
  have HB2 := hid (show TkAt w2 ⟨w1.heap.size, fun _ => True, Q0⟩ w1.heap.size tkN from by
    obtain ⟨fv, PF, hh⟩ := h2
    refine TkAt.loc' (base := ⟨w1.heap.size, fun _ => True, fun k => w1.heap.size ≤ k⟩) ⟨fv, PF, hh.head, hh.row, hh.list, hh.own, hh.low, hh.ok, hh.far, fun k hk => ?_⟩ Q0 (fun k h1 h2 => (hQ0 k).2 ⟨h2, h1⟩)
    rcases hk with rfl | hk
    · exact Nat.le_refl _
    · exact (World.ownsRow.lt hh.row k hk).1)
  have HA2 := hid (show TkAt w2 ⟨w.heap.size, fun _ => True, fun k => ¬ Q0 k⟩ w.heap.size tkN from (HA1.out.loc' (fun k => ¬ Q0 k) (fun k h1 _ h => by have := (hQ0 k).1 h; omega)).below hb2)
  have HK2 := hid (show Below w.heap.size w w2 from HB1.out.trans (hb2.mono (Nat.le_of_lt HS1.out)))
  have HN := hid (show ∀ k, w2.heap.size ≤ k → ¬ Q0 k from fun k hk h => by have := (hQ0 k).1 h; omega)
  clear h2 hb2 HQ0
  have HBnw2 := HB2
  have HAw2 := HA2
  have HKw2 := HK2
  have HZw2 := hid (Nat.le_refl w2.heap.size)
  clear HA1 HA2 HB1 HB2 HK2
  go_wp2_with fail
  obtain ⟨u0, hu0⟩ : ∃ u0, u0 = w2.alloc (.cells #[.int .u8 97] 5 (1, 2)) := ⟨_, rfl⟩
  have HFu := hid (show Far u0 w.heap.size (.slice (some ⟨w2.heap.size, 0, none⟩) ([97] : List UInt8).length 1) [97] by rw [hu0]; exact Far.one w2 _ 97 (1, 2))
  have HBu0 := hid (show Below w2.heap.size w2 u0 by rw [hu0]; exact (Below.refl _ _).alloc (Nat.le_refl _) _)
  rw [← hu0]
  clear hu0
  have HWu0 := hid (show w.heap.size ≤ u0.heap.size from Nat.le_trans HKw2.out.size HBu0.out.size)
  refine (say_yes ⟨w.heap.size, fun _ => True, fun k => ¬ Q0 k⟩ w.heap.size tkN (some ⟨w2.heap.size, 0, none⟩) 1 [97] u0 (HAw2.out.below HBu0.out) HWu0.out HFu.out (by decide) (by decide) (by decide) (fun _ _ => trivial) (fun k hk => HN.out k (Nat.le_trans HZw2.out (Nat.le_trans HBu0.out.size hk)))).mono ?_
  rintro e u1 ⟨xa1, xc1, rfl, ho, ha, hk⟩
  have HOu1 := hid ho
  have HAu1 := hid (show TkAt u1 ⟨w.heap.size, fun _ => True, fun k => ¬ Q0 k⟩ w.heap.size (tkN.say [97]) from by
    obtain ⟨fv, PF, hh⟩ := ha
    exact ⟨fv, PF, hh.far' (fun _ => True) (fun _ _ _ => trivial)⟩)
  have HBnu1 := hid ((HBnw2.out.below HBu0.out).keptQ hk (fun k _ h1 h2 => h2 h1))
  have HKu1 := hid ((HKw2.out.trans (HBu0.out.mono HKw2.out.size)).trans hk.below)
  have HZu1 := hid (show w2.heap.size ≤ u1.heap.size from Nat.le_trans HZw2.out (Nat.le_trans HBu0.out.size hk.size))
  have HKTu := hid hk.kt
  clear ho ha hk
  dsimp only
  go_wp2_with (first | (refine pk_st rfl (.tmp 3) (.tmp 20) rfl u1.heap.size _ _ _ _ _ _ _ rfl rfl (pkb_new u1) (by simp [Value.oneCell']) ?_; obtain ⟨v, hv⟩ : ∃ v, v = (u1.alloc (.cells #[.int .u8 0, .int .u32 0, .int .u32 0, .int .u32 0, .int .u32 0, .bool false, .slice none 0 0] 31)).setRow u1.heap.size #[.int .u8 tkN.node, .int .u32 tkN.epoch, .int .u32 tkN.life, .int .u32 ((tkN.all.length : Int) + 1), .int .u32 (tkN.heard : Int), .bool false, .slice xa1 1 xc1] := ⟨_, rfl⟩; obtain ⟨gv, bv, sv⟩ := pk_var _ _ _ _ _ _ _ _ _ hv; rw [← hv]; have HGv := hid gv; have HBv := hid bv; have HAv := hid (HAu1.out.below bv); have HBnv := hid (HBnu1.out.below bv); have HKv := hid (HKu1.out.trans (bv.mono HKu1.out.size)); have HZv := hid (Nat.le_trans HZu1.out bv.size); clear gv bv sv hv) | fail)
  have HPv := HGv
  obtain ⟨x0, hx0⟩ : ∃ x0, x0 = v.alloc (.cells #[.int .u8 98] 5 (1, 2)) := ⟨_, rfl⟩
  have HFx := hid (show Far x0 w.heap.size (.slice (some ⟨v.heap.size, 0, none⟩) ([98] : List UInt8).length 1) [98] by rw [hx0]; exact Far.one v _ 98 (1, 2))
  have HBx0 := hid (show Below v.heap.size v x0 by rw [hx0]; exact (Below.refl _ _).alloc (Nat.le_refl _) _)
  rw [← hx0]
  clear hx0
  have HWx0 := hid (show w.heap.size ≤ x0.heap.size from Nat.le_trans HKv.out.size HBx0.out.size)
  refine (say_yes ⟨w.heap.size, fun _ => True, fun k => ¬ Q0 k⟩ w.heap.size tkA1 (some ⟨v.heap.size, 0, none⟩) 1 [98] x0 (HAv.out.below HBx0.out) HWx0.out HFx.out (by decide) (by decide) (by decide) (fun _ _ => trivial) (fun k hk => HN.out k (Nat.le_trans HZv.out (Nat.le_trans HBx0.out.size hk)))).mono ?_
  rintro e x1 ⟨xa2, xc2, rfl, ho, ha, hk⟩
  have HOx1 := hid ho
  have HAx1 := hid (show TkAt x1 ⟨w.heap.size, fun _ => True, fun k => ¬ Q0 k⟩ w.heap.size (tkA1.say [98]) from by
    obtain ⟨fv, PF, hh⟩ := ha
    exact ⟨fv, PF, hh.far' (fun _ => True) (fun _ _ _ => trivial)⟩)
  have HBnx1 := hid ((HBnv.out.below HBx0.out).keptQ hk (fun k _ h1 h2 => h2 h1))
  have HKx1 := hid ((HKv.out.trans (HBx0.out.mono HKv.out.size)).trans hk.below)
  have HZx1 := hid (show w2.heap.size ≤ x1.heap.size from Nat.le_trans HZv.out (Nat.le_trans HBx0.out.size hk.size))
  have HPx1 := hid (hk.kt.block ((HBx0.out.block u1.heap.size (Array.getElem?_eq_some_iff.1 HPv.out).1).trans HPv.out) (by decide))
  have HKTx := hid hk.kt
  clear ho ha hk
  dsimp only
  go_wp2_with (first | (refine pk_st rfl (.tmp 5) (.tmp 27) rfl x1.heap.size _ _ _ _ _ _ _ rfl rfl (pkb_new x1) (by simp [Value.oneCell']) ?_; obtain ⟨p, hp⟩ : ∃ p, p = (x1.alloc (.cells #[.int .u8 0, .int .u32 0, .int .u32 0, .int .u32 0, .int .u32 0, .bool false, .slice none 0 0] 31)).setRow x1.heap.size #[.int .u8 tkA1.node, .int .u32 tkA1.epoch, .int .u32 tkA1.life, .int .u32 ((tkA1.all.length : Int) + 1), .int .u32 (tkA1.heard : Int), .bool false, .slice xa2 1 xc2] := ⟨_, rfl⟩; obtain ⟨gp, bp, sp⟩ := pk_var _ _ _ _ _ _ _ _ _ hp; rw [← hp]; have HGp := hid gp; have HBp := hid bp; have HAp := hid (HAx1.out.below bp); have HBnp := hid (HBnx1.out.below bp); have HKp := hid (HKx1.out.trans (bp.mono HKx1.out.size)); have HZp := hid (Nat.le_trans HZx1.out bp.size); clear gp bp sp hp; have HPp := hid ((HBp.out.block u1.heap.size (Array.getElem?_eq_some_iff.1 HPx1.out).1).trans HPx1.out)) | (refine pk_ld rfl (.tmp 5) rfl x1.heap.size rfl _ _ _ _ _ _ _ HGp.out ?_) | fail)
  have HBb := hid (HBnp.out.loc' (fun k => Q0 k ∨ p.heap.size ≤ k) (fun k _ h => .inl h))
  have HAa := hid (HAp.out.loc' (fun k => ¬ Q0 k ∧ k < p.heap.size) (fun k h1 h => ⟨h, h1⟩))
  have HDJ := hid (show ∀ k, (¬ Q0 k ∧ k < p.heap.size) → ¬ (Q0 k ∨ p.heap.size ≤ k) from fun k h h2 => by rcases h2 with h2 | h2; exact h.1 h2; omega)
  have HN1 := hid (show w1.heap.size ≤ p.heap.size from Nat.le_trans (Nat.le_of_lt HS2.out) HZp.out)
  have HF2 := hid (show Far p w1.heap.size (.slice xa2 1 xc2) [98] from Far.of_own (HOx1.out.below HBp.out))
  have HF1 := hid (show Far p w1.heap.size (.slice xa1 1 xc1) [97] from Far.of_own ((((HOu1.out.below HBv.out).below HBx0.out).kt HKTx.out (by decide)).below HBp.out))
  refine (hear_any ⟨w1.heap.size, fun _ => True, fun k => Q0 k ∨ p.heap.size ≤ k⟩ w1.heap.size tkN kA2 xa2 xc2 p HBb.out HN1.out HF2.out (by decide) (by decide)).mono ?_
  rintro e q ⟨a1, d1, a2, d2, rfl, o1, o2, hb', hk'⟩
  rw [show tkN.fresh kA2 = false from rfl, show tkN.resp kA2 = true from rfl, show tkN.gets kA2 = [] from rfl, show tkN.ans kA2 = ⟨1, 1, 1, 0, 0, false, []⟩ from rfl]
  have HBq := hid (show TkAt q ⟨w1.heap.size, fun _ => True, fun k => Q0 k ∨ p.heap.size ≤ k⟩ w1.heap.size tkB1 from hb')
  have HAq := hid (HAa.out.keptQ hk' (fun k _ h => HDJ.out k h))
  have HPq := hid (hk'.kt.block HPp.out (by decide))
  have HFq := hid (HF1.out.kt hk'.kt (by decide))
  have HSq := hid hk'.size
  have HKq := hid (HKp.out.trans (hk'.below.mono (Nat.le_of_lt HS1.out)))
  clear hb' hk' o1 o2
  dsimp only
  go_wp2_with (first | (refine pk_st rfl (.tmp 9) (.tmp 35) rfl q.heap.size _ _ _ _ _ _ _ rfl rfl (pkb_new q) (by simp [Value.oneCell']) ?_; obtain ⟨z, hz⟩ : ∃ z, z = (q.alloc (.cells #[.int .u8 0, .int .u32 0, .int .u32 0, .int .u32 0, .int .u32 0, .bool false, .slice none 0 0] 31)).setRow q.heap.size #[.int .u8 1, .int .u32 1, .int .u32 1, .int .u32 0, .int .u32 0, .bool false, .slice a2 0 d2] := ⟨_, rfl⟩; obtain ⟨gz, bz, sz⟩ := pk_var _ _ _ _ _ _ _ _ _ hz; rw [← hz]; have HGz := hid gz; have HBz := hid bz; have zc : z.cell? ⟨q.heap.size, 4, none⟩ = some (.int .u32 0) := (cell_of_row _ _ _ _ _ _ gz).trans rfl; have HPz := hid ((bz.block u1.heap.size (Array.getElem?_eq_some_iff.1 HPq.out).1).trans HPq.out); clear gz bz sz hz) | (refine pk_ld rfl (.tmp 3) rfl u1.heap.size rfl _ _ _ _ _ _ _ HPz.out ?_) | fail)
  clear zc
  have HN2 := hid (show w1.heap.size ≤ z.heap.size from Nat.le_trans HN1.out (Nat.le_trans HSq.out HBz.out.size))
  have HFz := hid (show Far z w1.heap.size (.slice xa1 1 xc1) [97] from Far.kt HFq.out (KT.of_below (ts := []) HBz.out (Nat.le_trans HN1.out HSq.out)) (by decide))
  refine (hear_any ⟨w1.heap.size, fun _ => True, fun k => Q0 k ∨ p.heap.size ≤ k⟩ w1.heap.size tkB1 kA1 xa1 xc1 z (HBq.out.below HBz.out) HN2.out HFz.out (by decide) (by decide)).mono ?_
  rintro e r ⟨a3, d3, a4, d4, rfl, o1, o2, hb', hk'⟩
  rw [show tkB1.fresh kA1 = true from rfl, show tkB1.resp kA1 = true from rfl, show tkB1.gets kA1 = [97] from rfl, show tkB1.ans kA1 = ⟨1, 1, 1, 0, 1, false, []⟩ from rfl]
  have HAr := hid ((HAq.out.below HBz.out).keptQ hk' (fun k _ h => HDJ.out k h))
  have HGr := hid (hk'.kt.block HGz.out (by decide))
  have HO3 := hid o1
  have HSr := hid (Nat.le_trans HBz.out.size hk'.size)
  have HKr := hid ((HKq.out.trans (HBz.out.mono HKq.out.size)).trans (hk'.below.mono (Nat.le_of_lt HS1.out)))
  clear hb' hk' o1 o2
  dsimp only
  obtain ⟨r2, hr2⟩ : ∃ r2, r2 = r.setRow q.heap.size #[.int .u8 1, .int .u32 1, .int .u32 1, .int .u32 0, .int .u32 1, .bool false, .slice a4 0 d4] := ⟨_, rfl⟩
  have kr : Keeps (fun k => k = q.heap.size) r r2 := by rw [hr2]; exact setRow_keeps _ _ _
  have HQW := hid (show w.heap.size ≤ q.heap.size from HKq.out.size)
  have KR := hid (show KT [31] w.heap.size r r2 from KT.of_keeps kr (fun k _ e => by subst e; exact ⟨HQW.out, _, _, _, HGr.out, by simp⟩) HKr.out.size)
  have HA2 := hid (HAr.out.kt KR.out (by decide) (by decide) (by decide))
  have hcell : r2.heap[q.heap.size]? = some (.cells #[.int .u8 1, .int .u32 1, .int .u32 1, .int .u32 0, .int .u32 1, .bool false, .slice a4 0 d4] 31 (0, 0)) := by rw [hr2]; exact PkB.row ⟨_, _, _, _, _, _, _, HGr.out⟩ _ _ _ _ _ _ _
  have z4 : r2.cell? ⟨q.heap.size, 4, none⟩ = some (.int .u32 1) := (cell_of_row _ _ _ _ _ _ hcell).trans rfl
  have HT := text_of (v := .slice a3 1 d3) (l := [97]) (HO3.out.kt KR.out (by decide)).rd
  have HR2 := hid hr2
  have HK2 := hid (HKr.out.trans KR.out.below)
  clear hr2 kr hcell
  go_wp2_with (first | (refine pk_st rfl (.tmp 9) (.tmp 53) rfl q.heap.size _ _ _ _ _ _ _ rfl rfl ⟨_, _, _, _, _, _, _, HGr.out⟩ (by simp [Value.oneCell']) ?_; rw [← HR2.out]) | fail)
  refine (tick_any ⟨w.heap.size, fun _ => True, fun k => ¬ Q0 k ∧ k < p.heap.size⟩ w.heap.size tkA2 r2 HA2.out HK2.out.size (by decide)).mono ?_
  rintro e s1 ⟨va, vc, rfl, _, h1, k1⟩
  have HA3 := hid h1
  have HK3 := hid (HK2.out.trans k1.below)
  rw [show tkA2.outs = [] from rfl]
  clear h1 k1
  dsimp only
  go_wp2_with fail
  refine (tick_any ⟨w.heap.size, fun _ => True, fun k => ¬ Q0 k ∧ k < p.heap.size⟩ w.heap.size tkA2.tick s1 HA3.out HK3.out.size (by decide)).mono ?_
  rintro e s2 ⟨vb, vd, rfl, _, h1, k1⟩
  have HK4 := hid (HK3.out.trans k1.below)
  rw [show tkA2.tick.outs.length = 2 from rfl]
  clear h1 k1
  dsimp only
  go_wp2_with fail
  go_ret
  exact ⟨rfl, HK4.out⟩

end Go.Proofs.Ytjpojlkdogaalaa
