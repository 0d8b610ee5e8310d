/-
  Layer 6: slices.Delete of the first m runs: its contract (TalkD's proof, at another type).
-/
import Derived.Test.YtbagpckiegpalaaBmM
import Derived.Test.YtbagpckiegpalaaAppR
import Derived.Lib.SliceRun
import Derived.Deep.RegionLaw
namespace Go.Proofs.Ytbagpckiegpalaa
open Go.RowKit
set_option linter.unusedVariables false

/-- Cells set one by one are a row set. -/
theorem setCells_row (w : World) (g o : Nat) (cur : Array Value) (T : TypeId) (vs : List Value) (hg : w.heap[g]? = some (.cells cur T (0, 0))) (hfit : o + vs.length ≤ cur.size) (h1 : ∀ u ∈ vs, u.oneCell' = true) :
    w.setCells g o vs = w.setRow g (cur.toList.take o ++ vs ++ cur.toList.drop (o + vs.length)).toArray := by
  have a := run_storeCells_at Try.prog g o T vs 0 cur w hg (by simpa using hfit) h1
  have b := run_storeCells_cells (P := Try.prog) g o vs 0 w (fun j hj => by
    rw [cell_of_row _ _ _ _ _ _ hg]
    simp; omega) (fun j hj => frozen_of_row _ _ _ _ _ hg) h1
  rw [a] at b
  simp only [Nat.add_zero, Result.ok.injEq, true_and] at b
  exact b.symm

theorem run_clear_many (w : World) (t e ty : TypeId) (z : Value) (m : Nat) (hm : 1 ≤ m) (zs : List Value) (ht : Try.prog.underlying t = some (.slice e)) (hv : ∀ w, (zeroValue e).run Try.prog w = .ok z w) (hz : (Builtin.zeroCells z.cells m).toList = zs) (h1 : ∀ u ∈ zs, u.oneCell' = true) (b o c : Nat)
    (hc : ∀ j, j < zs.length → (w.cell? ⟨b, o + j, none⟩).isSome = true) (hf : ∀ j, j < zs.length → w.frozen? ⟨b, o + j, none⟩ = false) :
    (Builtin.clear_ #[t] ty #[.slice (some ⟨b, o, none⟩) m c]).run Try.prog w = .ok (.tuple #[]) (w.setCells b o zs) := by
  have hst := run_storeCells_cells (P := Try.prog) b o zs 0 w (by simpa using hc) (by simpa using hf) h1
  simp only [Nat.add_zero] at hst
  obtain ⟨m', rfl⟩ : ∃ m', m = m' + 1 := ⟨m - 1, by omega⟩
  simp [Builtin.clear_, run_underlying ht, hv, hz, hst]

theorem del0_take (cur xs D E zs : List Value) (m n cap : Nat) (hm : m ≤ n) (hc : n ≤ cap) (hl : cur.length = cap * 2) (htk : cur.take (n * 2) = xs) :
    (((xs.drop (m * 2) ++ D).take ((n - m) * 2)) ++ zs ++ E).take ((n - m) * 2) = xs.drop (m * 2) := by
  have hxl : xs.length = n * 2 := by rw [← htk, List.length_take, hl]; omega
  have L : (xs.drop (m * 2)).length = (n - m) * 2 := by rw [List.length_drop, hxl]; omega
  have e2 : (xs.drop (m * 2) ++ D).take ((n - m) * 2) = xs.drop (m * 2) := by rw [← L, List.take_left']; rfl
  rw [e2, List.append_assoc]
  conv => lhs; rw [← L]
  rw [List.take_left']
  rfl

theorem setRow_keepsB (w : World) (g : Nat) (cs : Array Value) : Keeps (fun k => k = g) w (w.setRow g cs) :=
  ⟨rfl, rfl, rfl, by simp, fun k _ hk => setRow_other w g k cs hk⟩

theorem zrun_len (m : Nat) : (Builtin.zeroCells (Value.agg #[.int .i64 0, .int .i64 0]).cells m).toList.length = m * 2 := by
  rw [Array.length_toList, size_zeroCells]
  rfl

theorem zrun_one (m : Nat) : ∀ u ∈ (Builtin.zeroCells (Value.agg #[.int .i64 0, .int .i64 0]).cells m).toList, u.oneCell' = true := by
  intro u hu
  simp only [Builtin.zeroCells, Array.toList_map, List.mem_map] at hu
  obtain ⟨i, _, rfl⟩ := hu
  have hs : (Value.agg #[.int .i64 0, .int .i64 0]).cells = #[.int .i64 0, .int .i64 0] := rfl
  rw [hs]
  have h2 : i % (#[Value.int .i64 0, .int .i64 0] : Array Value).size < 2 := Nat.mod_lt _ (by simp)
  obtain ⟨k, hk⟩ : ∃ k, k = i % (#[Value.int .i64 0, .int .i64 0] : Array Value).size := ⟨_, rfl⟩
  rw [← hk] at h2 ⊢
  match k, h2 with
  | 0, _ => rfl
  | 1, _ => rfl

set_option maxRecDepth 100000 in
set_option maxHeartbeats 4000000 in
theorem delete_front (w : World) (base g n cap m : Nat) (xs : List Value) (h : w.ownsRow base 116 2 (.slice (some ⟨g, 0, none⟩) n cap) n xs) (hm : 1 ≤ m) (hmn : m ≤ n) (hn : n ≤ 1000000) (h1 : ∀ u ∈ xs, u.oneCell' = true) :
    Calls Try.prog 54 #[.slice (some ⟨g, 0, none⟩) n cap, .int .i64 0, .int .i64 (m : Int)] w fun e w' => e = .returned (.slice (some ⟨g, 0, none⟩) (n - m) cap) ∧ w'.ownsRow base 116 2 (.slice (some ⟨g, 0, none⟩) (n - m) cap) (n - m) (xs.drop (m * 2)) ∧ Keeps (fun k => k = g) w w' := by
  obtain ⟨cur, hg, hsz, htk, hcap, hcm, hb⟩ := owns_setRow h
  have hxl : xs.length = n * 2 := h.1
  have hcm' : cap ≤ 9223372036854775807 := by unfold maxLen at hcm; exact hcm
  obtain ⟨news, hnews⟩ : ∃ news, news = xs.drop (m * 2) := ⟨_, rfl⟩
  have hlen : news.length = (n - m) * 2 := by rw [hnews, List.length_drop, hxl]; omega
  have hinfo : (Try.prog.info? 116).map (fun i => (i.zero, i.size, i.bytes)) = some (some (.agg #[.int .i64 0, .int .i64 0]), 2, 16) := by kernel_rfl
  obtain ⟨i0, hi0, hz0, hz1, hz2⟩ := info_parts hinfo
  have hcell : ∀ t u, xs[t]? = some u → w.cell? ⟨g, t, none⟩ = some u := fun t u hu => by
    have := World.ownsRow.cells h (g := g) rfl t u hu
    rwa [Addr.add_lit, Nat.zero_add] at this
  obtain ⟨A, hA, hsrc⟩ : ∃ A : Addr, (if cap = m then some (⟨g, 0, none⟩ : Addr) else some ⟨g, m * 2, none⟩) = some A ∧ Hid (∀ t u, news[t]? = some u → w.drew.cell? (A.add t) = some u) := by
    by_cases hc : cap = m
    · refine ⟨⟨g, 0, none⟩, by simp [hc], hid fun t u hu => ?_⟩
      have h0 : news.length = 0 := by rw [hlen]; omega
      rw [List.length_eq_zero_iff.1 h0] at hu
      simp at hu
    · refine ⟨⟨g, m * 2, none⟩, by simp [hc], hid fun t u hu => ?_⟩
      rw [hnews, List.getElem?_drop] at hu
      rw [Addr.add_lit]
      exact hcell _ _ hu
  have s1 := hid (show news.length = (n - m) * 2 from hlen)
  have s2 := hid (show ∀ u ∈ news, u.oneCell' = true from fun u hu => h1 u (by rw [hnews] at hu; exact List.mem_of_mem_drop hu))
  have hfro : ∀ j, w.frozen? ⟨g, j, none⟩ = false := fun j => frozen_of_row _ _ _ _ _ hg
  have s3 := hid (show ∀ t, t < news.length → (w.drew.cell? ⟨g, 0 + 0 * 2 + t, none⟩).isSome = true ∧ w.drew.frozen? ⟨g, 0 + 0 * 2 + t, none⟩ = false from fun t ht => by
    refine ⟨?_, hfro _⟩
    show (w.cell? ⟨g, 0 + 0 * 2 + t, none⟩).isSome = true
    rw [cell_of_row _ _ _ _ _ _ hg]
    have : 0 + 0 * 2 + t < cur.size := by rw [hsz]; rw [hlen] at ht; omega
    simp; omega)
  obtain ⟨W1, hW1⟩ : ∃ W1, W1 = w.drew.setCells g (0 + 0 * 2) news := ⟨_, rfl⟩
  have hcurl : cur.toList.length = cap * 2 := by simpa using hsz
  have hW1' : W1 = w.drew.setRow g (news ++ cur.toList.drop news.length).toArray := by
    rw [hW1, setCells_row w.drew g (0 + 0 * 2) cur 116 news hg (by rw [hlen, hsz]; omega) s2.out]
    simp
  have hg1 : W1.heap[g]? = some (.cells (news ++ cur.toList.drop news.length).toArray 116 (0, 0)) := by
    rw [hW1']; exact setRow_heap w.drew g cur _ _ _ hg
  obtain ⟨c1, hc1⟩ : ∃ c1, c1 = (news ++ cur.toList.drop news.length).toArray := ⟨_, rfl⟩
  rw [← hc1] at hg1 hW1'
  have hc1s : c1.size = cap * 2 := by rw [hc1]; simp [hlen, hsz]; omega
  obtain ⟨zs, hzs⟩ : ∃ zs, zs = (Builtin.zeroCells (Value.agg #[.int .i64 0, .int .i64 0]).cells m).toList := ⟨_, rfl⟩
  have hzl : zs.length = m * 2 := by rw [hzs]; exact zrun_len m
  have hz1' : ∀ u ∈ zs, u.oneCell' = true := by rw [hzs]; exact zrun_one m
  have hcl : ∀ ty, (Builtin.clear_ #[112] ty #[.slice (some ⟨g, (n - m) * 2, none⟩) m (cap - (n - m))]).run Try.prog W1 = .ok (.tuple #[]) (W1.setCells g ((n - m) * 2) zs) :=
    fun ty => run_clear_many W1 112 116 ty _ m hm zs Try.underlying112 Try.zeroValue116 hzs.symm hz1' g ((n - m) * 2) _ (fun j hj => by
      rw [cell_of_row _ _ _ _ _ _ hg1]
      have : (n - m) * 2 + j < c1.size := by rw [hc1s]; rw [hzl] at hj; omega
      simp; omega) (fun j hj => frozen_of_row _ _ _ _ _ hg1)
  have HX := hid (show W1 = w.drew.setRow g c1 from hW1')
  have hW := hid hW1
  have HG1 := hid hg1
  have HC1 := hid hc1
  have HC1S := hid hc1s
  have HNW := hid hnews
  have HTK := hid htk
  have HCU := hid hcurl
  have HXL := hid hxl
  have HB := hid hb
  have H0 := hid hi0
  have HZ1 := hid hz1
  have HZL := hid hzl
  have HZO := hid hz1'
  have q0 : (0 : Int) ≤ (m : Int) := by omega
  have q2 : (m : Int) ≤ (n : Int) := by omega
  have q3 : (n : Int) ≤ (cap : Int) := by omega
  have q4 : ((0 : Int) == (m : Int)) = false := by rw [beq_eq_false_iff_ne]; omega
  have q6 : (m : Int) ≤ (cap : Int) := by omega
  have HHC := hid hcl
  clear hW1 hW1' hg1 hc1 hc1s hg hnews hlen htk hcurl hxl hcell hfro hsz hb h hz0 hz2 hi0 hz1 hinfo hcl hzs h1 hzl hz1'
  go_enter Try.func54, Try.ntmps54
  go_wp2_with fail
  go_region_law (refine step_append_room rfl (.tmp 22) (.tmp 25) 112 rfl 116 i0 2 Try.underlying112 H0.out HZ1.out g 0 0 cap (by simp [Act.eval, Act.put]) A (n - m) (cap - m) news (by simp [Act.eval, Act.put]) s1.out hsrc.out s2.out (by omega) s3.out ?_; rw [← hW.out])
  have r1 : (cap = n - m) = False := eq_false (by omega)
  have r2 : n - (n - m) = m := by omega
  have r3 : ((n - m : Nat) : Int) ≤ (n : Int) := by omega
  have hcl := HHC.out
  go_wp2_with fail
  go_ret
  have e0 := setCells_row W1 g ((n - m) * 2) c1 116 zs HG1.out (by rw [HC1S.out, HZL.out]; omega) HZO.out
  refine ⟨rfl, ?_, ?_⟩
  · rw [e0]
    refine ⟨by rw [List.length_drop, HXL.out]; omega, .inr ⟨g, cap, _, rfl, HB.out, setRow_heap W1 g c1 _ _ _ HG1.out, by omega, hcm, ?_, ?_⟩⟩
    · have := HC1S.out
      have := HZL.out
      simp
      omega
    · have hcc : c1.toList = news ++ cur.toList.drop news.length := by rw [HC1.out]
      rw [hcc, HNW.out]
      exact del0_take cur.toList xs _ _ _ m n cap hmn hcap HCU.out HTK.out
  · rw [e0, HX.out]
    exact ((Keeps.refl (fun k => k = g) w).drew.trans (setRow_keepsB w.drew g c1)).trans (setRow_keepsB _ g _)

end Go.Proofs.Ytbagpckiegpalaa
