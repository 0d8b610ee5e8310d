/-
  A heap's Remove and Change.
-/
import Derived.Test.YtcgfechodbmimaaPrE
import Derived.Test.YtcgfechodbmimaaPrP
import Derived.BigQuiet
import Derived.StillTailTactics
namespace Go.Proofs.Ytcgfechodbmimaa
open Go.RowKit Go.ChangeMaps
set_option linter.unusedVariables false
set_option linter.unusedSimpArgs false

theorem MpF.look1 {w : World} {b c : Nat} {F : Int → Option Nat} (h : MpF w b c F) {z : Int} (hz : kw z) {k : Nat} (hk : F z = some k) :
    (Instr.lookup 49 (.map (some b)) (.int .u32 z) false).run Try.prog w = .ok (.int .i64 (k : Int)) w := by
  obtain ⟨D, n, h1, h2, h3⟩ := h
  obtain ⟨x, hrun, hx, -⟩ := h1.lookup_int u32_keyed Try.underlying49 Try.underlying3 (zero_int w) (key_u32 hz)
  have e1 := (h3 z hz).2 k hk
  rw [e1] at hx
  simp only [DataW.lit.injEq, Lit.int.injEq, true_and] at hx
  rw [hrun, hx]

theorem remove11_no (w : World) (lo b m : Nat) (v : Value) (q : List It) (z : Int) (h : RwAt w lo b v m q) (hz : kw z) (hn : plc q z = none) :
    Calls Try.prog 11 #[.pointer (some ⟨b, 0, none⟩), .int .u32 z] w fun e w' => e = .returned (.int .i64 6) ∧ w = w' := by
  have h1 := has11_any w lo b m v q z h hz
  rw [hn] at h1
  have HH := hid (show Calls Try.prog 14 #[.pointer (some ⟨b, 0, none⟩), .int .u32 z] w fun e w' => e = .returned (.bool false) ∧ w = w' from h1)
  clear h h1 hn
  go_enter Try.func11, Try.ntmps11
  go_wp2_with (first
    | (go_at_call 14; (with_reducible refine HH.out.mono ?_); rintro e w2 ⟨rfl, rfl⟩)
    | fail)
  go_ret
  exact ⟨rfl, rfl⟩

set_option maxRecDepth 100000 in
set_option maxHeartbeats 4000000 in
theorem remove11_yes (w : World) (lo b m : Nat) (v : Value) (q : List It) (z : Int) (k : Nat) (h : RwAt w lo b v m q) (hh : HeapN q q.length) (hz : kw z) (hk : plc q z = some k) :
    Calls Try.prog 11 #[.pointer (some ⟨b, 0, none⟩), .int .u32 z] w fun e w' => e = .returned (.int .i64 0) ∧ ∃ v' q', RwAt w' lo b v' m q' ∧ HeapN q' q'.length ∧ (it q k :: q').Perm q ∧ Keeps (Hb b m v) w w' ∧ v'.ownBlock = v.ownBlock := by
  have h1 := has11_any w lo b m v q z h hz
  rw [hk] at h1
  have HH := hid (show Calls Try.prog 14 #[.pointer (some ⟨b, 0, none⟩), .int .u32 z] w fun e w' => e = .returned (.bool true) ∧ w = w' from h1)
  obtain ⟨hkl, hki⟩ := (plc_some h.ids).1 hk
  obtain ⟨n, hn⟩ : ∃ n, q.length = n + 1 := ⟨q.length - 1, by omega⟩
  have hd : RwAt w.drew lo b v m q := h.below (Below.refl _ _).drew
  have HR := hid (hremove_any w.drew lo b m v q k n hd hh hn (by omega))
  have c1 : w.cell? ⟨b, 1, none⟩ = some (.map (some m)) := (cell_of_row w _ _ _ _ _ h.blk).trans rfl
  have C1 : w.drew.cell? ⟨b, 1, none⟩ = some (.map (some m)) := c1
  have hlk := hd.mp.look1 hz hk
  have HKD := hid (fun (w3 : World) (hk : Keeps (Hb b m v) w.drew w3) => show Keeps (Hb b m v) w w3 from ⟨hk.os, hk.tape, hk.output, hk.size, hk.block⟩)
  generalize itv (it q k) = X at *
  clear h h1 hh hk hd hkl hki hn
  go_enter Try.func11, Try.ntmps11
  go_upto_region 3 with (first
    | (go_at_call 14; (with_reducible refine HH.out.mono ?_); rintro e w2 ⟨rfl, rfl⟩)
    | fail)
  go_region_held3 (fun w' => w'.cell? ⟨b, 1, none⟩ = some (.map (some m))) (first | assumption | fail)
    (first
      | (go_at_call 21; (with_reducible refine HR.out.mono ?_); rintro e w3 ⟨rfl, v3, q3, hr3, hh3, hp3, hk3, ho3⟩; have y3 : w3.cell? ⟨b, 1, none⟩ = some (.map (some m)) := (cell_of_row _ _ _ _ _ _ hr3.blk).trans rfl; have HR3 := hid hr3; have HH3 := hid hh3; have HP3 := hid hp3; have HK3 := hid (HKD.out w3 hk3); have HO3 := hid ho3; clear hr3 hh3 hp3 hk3 ho3)
      | fail)
  go_wp2_with fail
  go_ret
  exact ⟨rfl, v3, q3, HR3.out, HH3.out, HP3.out, HK3.out, HO3.out⟩

end Go.Proofs.Ytcgfechodbmimaa
