/-
  slices.Delete of one element of six cells: its contract.
-/
import Derived.Test.YtahiaifdfgkemaaJbP
import Derived.Lib.SliceRun
import Derived.Deep.RegionLaw
namespace Go.Proofs.Ytahiaifdfgkemaa
open Go.RowKit
set_option linter.unusedVariables false

/-- Cells set one by one are a row set. -/
theorem setCells_row (w : World) (g o : Nat) (cur : Array Value) (T : TypeId) (vs : List Value) (hg : w.heap[g]? = some (.cells cur T (0, 0))) (hfit : o + vs.length ≤ cur.size) (h1 : ∀ u ∈ vs, u.oneCell' = true) :
    w.setCells g o vs = w.setRow g (cur.toList.take o ++ vs ++ cur.toList.drop (o + vs.length)).toArray := by
  have a := run_storeCells_at Try.prog g o T vs 0 cur w hg (by simpa using hfit) h1
  have b := run_storeCells_cells (P := Try.prog) g o vs 0 w (fun j hj => by
    rw [cell_of_row _ _ _ _ _ _ hg]
    simp; omega) (fun j hj => frozen_of_row _ _ _ _ _ hg) h1
  rw [a] at b
  simp only [Nat.add_zero, Result.ok.injEq, true_and] at b
  exact b.symm

theorem run_clear_one (w : World) (t e ty : TypeId) (z : Value) (zs : List Value) (ht : Try.prog.underlying t = some (.slice e)) (hv : ∀ w, (zeroValue e).run Try.prog w = .ok z w) (hz : (Builtin.zeroCells z.cells 1).toList = zs) (h1 : ∀ u ∈ zs, u.oneCell' = true) (b o c : Nat)
    (hc : ∀ j, j < zs.length → (w.cell? ⟨b, o + j, none⟩).isSome = true) (hf : ∀ j, j < zs.length → w.frozen? ⟨b, o + j, none⟩ = false) :
    (Builtin.clear_ #[t] ty #[.slice (some ⟨b, o, none⟩) 1 c]).run Try.prog w = .ok (.tuple #[]) (w.setCells b o zs) := by
  have hst := run_storeCells_cells (P := Try.prog) b o zs 0 w (by simpa using hc) (by simpa using hf) h1
  simp only [Nat.add_zero] at hst
  simp [Builtin.clear_, run_underlying ht, hv, hz, hst]

theorem keeps_setRow (w : World) (g : Nat) (cs : Array Value) : Keeps (fun k => k = g) w (w.setRow g cs) :=
  ⟨rfl, rfl, rfl, by simp [World.setRow], fun k _ hn => by
    simp only [World.setRow, Array.getElem?_modify]
    rw [if_neg (fun e => hn e.symm)]⟩

theorem del_take (cur xs D E zs : List Value) (i n cap : Nat) (hi : i < n) (hc : n ≤ cap) (hl : cur.length = cap * 6) (htk : cur.take (n * 6) = xs) :
    (((cur.take (i * 6) ++ xs.drop ((i + 1) * 6) ++ D).take ((n - 1) * 6)) ++ zs ++ E).take ((n - 1) * 6) = xs.take (i * 6) ++ xs.drop ((i + 1) * 6) := by
  have hxl : xs.length = n * 6 := by rw [← htk, List.length_take, hl]; omega
  have e1 : cur.take (i * 6) = xs.take (i * 6) := by rw [← htk, List.take_take]; congr 1; omega
  have L : (xs.take (i * 6) ++ xs.drop ((i + 1) * 6)).length = (n - 1) * 6 := by rw [List.length_append, List.length_take, List.length_drop, hxl]; omega
  rw [e1]
  have e2 : (xs.take (i * 6) ++ xs.drop ((i + 1) * 6) ++ D).take ((n - 1) * 6) = xs.take (i * 6) ++ xs.drop ((i + 1) * 6) := by rw [← L, List.take_left']; rfl
  rw [e2, List.append_assoc]
  conv => lhs; rw [← L]
  rw [List.take_left']
  rfl

set_option maxRecDepth 100000 in
set_option maxHeartbeats 4000000 in
theorem delete_any (w : World) (base g n cap i : Nat) (xs : List Value) (h : w.ownsRow base 44 6 (.slice (some ⟨g, 0, none⟩) n cap) n xs) (hi : i < n) (hn : n ≤ 1000000) (h1 : ∀ u ∈ xs, u.oneCell' = true) :
    Calls Try.prog 37 #[.slice (some ⟨g, 0, none⟩) n cap, .int .i64 (i : Int), .int .i64 ((i : Int) + 1)] w fun e w' => e = .returned (.slice (some ⟨g, 0, none⟩) (n - 1) cap) ∧ w'.ownsRow base 44 6 (.slice (some ⟨g, 0, none⟩) (n - 1) cap) (n - 1) (xs.take (i * 6) ++ xs.drop ((i + 1) * 6)) ∧ Keeps (fun k => k = g) w w' := by
  obtain ⟨cur, hg, hsz, htk, hcap, hcm, hb⟩ := owns_setRow h
  have hxl : xs.length = n * 6 := h.1
  have hcm' : cap ≤ 9223372036854775807 := by unfold maxLen at hcm; exact hcm
  obtain ⟨news, hnews⟩ : ∃ news, news = xs.drop ((i + 1) * 6) := ⟨_, rfl⟩
  have hlen : news.length = (n - (i + 1)) * 6 := by rw [hnews, List.length_drop, hxl]; omega
  have hinfo : (Try.prog.info? 44).map (fun i => (i.zero, i.size, i.bytes)) = some (some (.agg #[.int .u32 0, .int .u8 0, .int .i64 0, .int .i64 0, .int .u8 0, .int .i64 0]), 6, 40) := by kernel_rfl
  obtain ⟨i0, hi0, hz0, hz1, hz2⟩ := info_parts hinfo
  have hcell : ∀ t u, xs[t]? = some u → w.cell? ⟨g, t, none⟩ = some u := fun t u hu => by
    have := World.ownsRow.cells h (g := g) rfl t u hu
    rwa [Addr.add_lit, Nat.zero_add] at this
  obtain ⟨A, hA, hsrc⟩ : ∃ A : Addr, (if cap = i + 1 then some (⟨g, 0, none⟩ : Addr) else some ⟨g, (i + 1) * 6, none⟩) = some A ∧ Hid (∀ t u, news[t]? = some u → w.drew.cell? (A.add t) = some u) := by
    by_cases hc : cap = i + 1
    · refine ⟨⟨g, 0, none⟩, by simp [hc], hid fun t u hu => ?_⟩
      have h0 : news.length = 0 := by rw [hlen]; omega
      rw [List.length_eq_zero_iff.1 h0] at hu
      simp at hu
    · refine ⟨⟨g, (i + 1) * 6, none⟩, by simp [hc], hid fun t u hu => ?_⟩
      rw [hnews, List.getElem?_drop] at hu
      rw [Addr.add_lit]
      exact hcell _ _ hu
  have s1 := hid (show news.length = (n - (i + 1)) * 6 from hlen)
  have s2 := hid (show ∀ u ∈ news, u.oneCell' = true from fun u hu => h1 u (by rw [hnews] at hu; exact List.mem_of_mem_drop hu))
  have hfro : ∀ j, w.frozen? ⟨g, j, none⟩ = false := fun j => frozen_of_row _ _ _ _ _ hg
  have s3 := hid (show ∀ t, t < news.length → (w.drew.cell? ⟨g, 0 + i * 6 + t, none⟩).isSome = true ∧ w.drew.frozen? ⟨g, 0 + i * 6 + t, none⟩ = false from fun t ht => by
    refine ⟨?_, hfro _⟩
    show (w.cell? ⟨g, 0 + i * 6 + t, none⟩).isSome = true
    rw [cell_of_row _ _ _ _ _ _ hg]
    have : 0 + i * 6 + t < cur.size := by rw [hsz]; rw [hlen] at ht; omega
    simp; omega)
  obtain ⟨W1, hW1⟩ : ∃ W1, W1 = w.drew.setCells g (0 + i * 6) news := ⟨_, rfl⟩
  have hcurl : cur.toList.length = cap * 6 := by simpa using hsz
  have hW1' : W1 = w.drew.setRow g (cur.toList.take (i * 6) ++ news ++ cur.toList.drop (i * 6 + news.length)).toArray := by
    rw [hW1, setCells_row w.drew g (0 + i * 6) cur 44 news hg (by rw [hlen, hsz]; omega) s2.out, Nat.zero_add]
  have hg1 : W1.heap[g]? = some (.cells (cur.toList.take (i * 6) ++ news ++ cur.toList.drop (i * 6 + news.length)).toArray 44 (0, 0)) := by
    rw [hW1']; exact setRow_heap w.drew g cur _ _ _ hg
  obtain ⟨c1, hc1⟩ : ∃ c1, c1 = (cur.toList.take (i * 6) ++ news ++ cur.toList.drop (i * 6 + news.length)).toArray := ⟨_, rfl⟩
  rw [← hc1] at hg1 hW1'
  have hc1s : c1.size = cap * 6 := by rw [hc1]; simp [hlen, hsz]; omega
  have hzs : (Builtin.zeroCells (Value.agg #[.int .u32 0, .int .u8 0, .int .i64 0, .int .i64 0, .int .u8 0, .int .i64 0]).cells 1).toList = [.int .u32 0, .int .u8 0, .int .i64 0, .int .i64 0, .int .u8 0, .int .i64 0] := by kernel_rfl
  have hcl : ∀ ty, (Builtin.clear_ #[41] ty #[.slice (some ⟨g, (n - 1) * 6, none⟩) 1 (cap - (n - 1))]).run Try.prog W1 = .ok (.tuple #[]) (W1.setCells g ((n - 1) * 6) [.int .u32 0, .int .u8 0, .int .i64 0, .int .i64 0, .int .u8 0, .int .i64 0]) :=
    fun ty => run_clear_one W1 41 44 ty _ _ Try.underlying41 Try.zeroValue44 hzs (by simp [Value.oneCell']) g ((n - 1) * 6) _ (fun j hj => by
      rw [cell_of_row _ _ _ _ _ _ hg1]
      have : (n - 1) * 6 + j < c1.size := by rw [hc1s]; simp at hj; omega
      simp; omega) (fun j hj => frozen_of_row _ _ _ _ _ hg1)
  have HX := hid (show W1 = w.drew.setRow g c1 from hW1')
  have hW := hid hW1
  have HG1 := hid hg1
  have HC1 := hid hc1
  have HC1S := hid hc1s
  have HG := hid hg
  have HNW := hid hnews
  have HTK := hid htk
  have HCU := hid hcurl
  have HXL := hid hxl
  have HB := hid hb
  have H0 := hid hi0
  have HZ1 := hid hz1
  have q1 : (i : Int) ≤ (i : Int) + 1 := by omega
  have q2 : (i : Int) + 1 ≤ (n : Int) := by omega
  have q3 : (n : Int) ≤ (cap : Int) := by omega
  have q4 : ((i : Int) == (i : Int) + 1) = false := by rw [beq_eq_false_iff_ne]; omega
  have q5 : (i : Int) ≤ (cap : Int) := by omega
  have q6 : (i : Int) + 1 ≤ (cap : Int) := by omega
  have q7 : ((i : Int) + 1).toNat = i + 1 := by omega
  have q8 : 0 ≤ (i : Int) + 1 := by omega
  have HHC := hid hcl
  clear hW1 hW1' hg1 hc1 hc1s hg hnews hlen htk hcurl hxl hcell hfro hsz hb h hz0 hz2 hi0 hz1 hinfo hcl hzs h1
  go_enter Try.func37, Try.ntmps37
  go_wp2_with fail
  go_region_law (refine step_append_room rfl (.tmp 22) (.tmp 25) 41 rfl 44 i0 6 Try.underlying41 H0.out HZ1.out g 0 i cap (by simp [Act.eval, Act.put]) A (n - (i + 1)) (cap - (i + 1)) news (by simp [Act.eval, Act.put]) s1.out hsrc.out s2.out (by omega) s3.out ?_; rw [← hW.out])
  rw [show i + (n - (i + 1)) = n - 1 by omega]
  have r1 : (cap = n - 1) = False := eq_false (by omega)
  have r2 : n - (n - 1) = 1 := by omega
  have r3 : ((n - 1 : Nat) : Int) ≤ (n : Int) := by omega
  have hcl := HHC.out
  go_wp2_with fail
  go_ret
  have e0 := setCells_row W1 g ((n - 1) * 6) c1 44 [.int .u32 0, .int .u8 0, .int .i64 0, .int .i64 0, .int .u8 0, .int .i64 0] HG1.out (by rw [HC1S.out]; simp; omega) (by simp [Value.oneCell'])
  refine ⟨rfl, ?_, ?_⟩
  · rw [e0]
    refine ⟨by rw [List.length_append, List.length_take, List.length_drop, HXL.out]; omega, .inr ⟨g, cap, _, rfl, HB.out, setRow_heap W1 g c1 _ _ _ HG1.out, by omega, hcm, ?_, ?_⟩⟩
    · have := HC1S.out
      simp
      omega
    · have hcc : c1.toList = cur.toList.take (i * 6) ++ news ++ cur.toList.drop (i * 6 + news.length) := by rw [HC1.out]
      rw [hcc, HNW.out]
      exact del_take cur.toList xs _ _ _ i n cap hi hcap HCU.out HTK.out
  · rw [e0, HX.out]
    exact ((Keeps.refl (fun k => k = g) w).drew.trans (keeps_setRow w.drew g c1)).trans (keeps_setRow _ g _)

end Go.Proofs.Ytahiaifdfgkemaa
