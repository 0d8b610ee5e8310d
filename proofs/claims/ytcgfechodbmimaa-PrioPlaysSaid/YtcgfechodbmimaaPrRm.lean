/-
  The document's Remove.
-/
import Derived.Test.YtcgfechodbmimaaPrPv
import Derived.Test.YtcgfechodbmimaaUntil
namespace Go.Proofs.Ytcgfechodbmimaa
open Go.RowKit Go.ChangeMaps
set_option linter.unusedVariables false
set_option linter.unusedSimpArgs false

theorem cels_app (a b : List It) : cels (a ++ b) = cels a ++ cels b := by
  unfold cels
  exact List.flatMap_append ..

theorem RdL.cels {w : World} {S : Nat → Prop} {g off n c : Nat} {l : List It} (h : RdL w S (.slice (some ⟨g, off, none⟩) n c) l) (j : Nat) (y : Value) (hj : (cels l)[j]? = some y) : w.cell? ⟨g, off + j, none⟩ = some y := by
  obtain ⟨a, c', e, h1, h2, h4⟩ := h
  simp only [Value.slice.injEq] at e
  obtain ⟨rfl, rfl, rfl⟩ := e
  have hl := (List.getElem?_eq_some_iff.1 hj).1
  rw [cels_len] at hl
  obtain ⟨g', off', e, -, -, c0, c1, c2⟩ := h4 (j / 3) (by omega)
  simp only [Option.some.injEq, Addr.mk.injEq] at e
  obtain ⟨rfl, rfl, -⟩ := e
  have hk : j / 3 < l.length := by omega
  have hm : j % 3 = 0 ∨ j % 3 = 1 ∨ j % 3 = 2 := by omega
  rcases hm with hm | hm | hm
  · have hv := cels_at l (j / 3) 0 _ hk rfl
    rw [show j / 3 * 3 + 0 = j by omega, hj] at hv
    rw [show off + j = off + j / 3 * 3 by omega, c0, Option.some.inj hv]
  · have hv := cels_at l (j / 3) 1 _ hk rfl
    rw [show j / 3 * 3 + 1 = j by omega, hj] at hv
    rw [show off + j = off + j / 3 * 3 + 1 by omega, c1, Option.some.inj hv]
  · have hv := cels_at l (j / 3) 2 _ hk rfl
    rw [show j / 3 * 3 + 2 = j by omega, hj] at hv
    rw [show off + j = off + j / 3 * 3 + 2 by omega, c2, Option.some.inj hv]

theorem cels_take (l : List It) (i j : Nat) (y : Value) (h : (cels (l.take i))[j]? = some y) : (cels l)[j]? = some y := by
  conv => lhs; rw [← List.take_append_drop i l, cels_app]
  rw [List.getElem?_append_left (List.getElem?_eq_some_iff.1 h).1]
  exact h

theorem cels_drop (l : List It) (i j : Nat) (y : Value) (hi : i ≤ l.length) (h : (cels (l.drop i))[j]? = some y) : (cels l)[i * 3 + j]? = some y := by
  conv => lhs; rw [← List.take_append_drop i l, cels_app]
  have e : (cels (l.take i)).length = i * 3 := by rw [cels_len, List.length_take, Nat.min_eq_left hi]
  rw [List.getElem?_append_right (by omega), e, show i * 3 + j - i * 3 = j by omega]
  exact h

theorem cels_ones (l : List It) : ∀ y ∈ cels l, y.oneCell' = true := by
  intro y hy
  unfold cels at hy
  obtain ⟨x, -, hx⟩ := List.mem_flatMap.1 hy
  exact cel_one x y hx

theorem rremove_no (w : World) (S : Nat → Prop) (v : Value) (l : List It) (z : Int) (h : RdL w S v l) (hp : plc l z = none) :
    Calls Try.prog 10 #[v, .int .u32 z] w fun e w' => e = .returned (.tuple #[v, .int .i64 6]) ∧ Below w.heap.size w w' := by
  obtain ⟨a, c, rfl, -⟩ := id h
  have h1 := find11_any w S _ l z h
  rw [fnd_no hp] at h1
  have HF := hid h1
  clear h1 h hp
  obtain ⟨n, hn⟩ : ∃ n, n = l.length := ⟨_, rfl⟩
  rw [← hn] at HF ⊢
  clear hn
  go_enter Try.func10, Try.ntmps10
  go_wp2_with (first
    | (go_at_call 15; (with_reducible refine HF.out.mono ?_); rintro e w2 ⟨rfl, hb2⟩; have HB2 := hid hb2; clear hb2)
    | fail)
  go_ret2
  exact ⟨rfl, HB2.out⟩

set_option maxRecDepth 100000 in
set_option maxHeartbeats 4000000 in
theorem rremove_yes (w : World) (S : Nat → Prop) (v : Value) (l : List It) (z : Int) (k : Nat) (h : RdL w S v l) (hl : l.length ≤ 9000) (hp : plc l z = some k) (hkl : k < l.length) :
    Calls Try.prog 10 #[v, .int .u32 z] w fun e w' => ∃ v', e = .returned (.tuple #[v', .int .i64 0]) ∧ w'.ownsRow w.heap.size 29 3 v' (l.take k ++ l.drop (k + 1)).length (cels (l.take k ++ l.drop (k + 1))) ∧ Below w.heap.size w w' := by
  obtain ⟨a, c, rfl, hlc, hcm, h4⟩ := id h
  obtain ⟨g, off, rfl, hg, -⟩ := h4 k hkl
  have h1 := find11_any w S _ l z h
  rw [fnd_yes hp] at h1
  have HF := hid h1
  have H := hid h
  have HL := hid hl
  have hkc : k ≤ c := by omega
  have hki : (k : Int) ≤ (c : Int) := by omega
  obtain ⟨n, hn⟩ : ∃ n, n = l.length := ⟨_, rfl⟩
  rw [← hn] at hlc HF ⊢
  have HN := hid hn
  have hkn : k < n := by omega
  have HKN := hid hkn
  have hw1 : IntKind.i64.wrap ((k : Int) + 1) = (k : Int) + 1 := by rw [IntKind.wrap_i64]; omega
  have hk0 : (0 : Int) ≤ (k : Int) := by omega
  have hk1 : (k : Int) + 1 ≤ (n : Int) := by omega
  have hk2 : (0 : Int) ≤ (k : Int) + 1 := by omega
  have hnk : ¬ (k : Int) < 0 := by omega
  have ht1 : ((k : Int) + 1).toNat = k + 1 := by omega
  clear h1 h hp h4 hl hkl hn
  obtain ⟨l2, hl2⟩ : ∃ l2, l2 = l.take k ++ l.drop (k + 1) := ⟨_, rfl⟩
  rw [← hl2]
  have HL2 := hid hl2
  clear hl2
  go_enter Try.func10, Try.ntmps10
  go_upto_region 4 with (first
    | (go_at_call 15; (with_reducible refine HF.out.mono ?_); rintro e w2 ⟨rfl, hb2⟩)
    | fail)
  have HB2 := hid hb2
  have H2 := hid (H.out.below hb2)
  clear hb2
  refine Orders.begins (C := []) (by kernel_rfl) ?_
  refine Orders.take (fun _ => True) [] (i := 1) (v := ?_) rfl (by kernel_rfl) (by kernel_rfl) (by kernel_rfl) (fun _ _ _ h => h) (by kernel_rfl) (fun _ _ _ _ => trivial) (by kernel_rfl) (by kernel_rfl) (Or.inl ⟨by rfl, ?_⟩) (fun c hc => by cases hc) (fun HU => ?_)
  rotate_left
  · intro u hSw
    try dsimp only at hSw
    go_simp
    try (with_reducible rfl)
  clear HU
  try simp only [Act.put, List.getElem_toArray, List.getElem_cons_succ, List.getElem_cons_zero, List.setIfInBounds_toArray, List.set_cons_zero, List.set_cons_succ]
  refine Orders.take (fun _ => True) [] (i := 2) (v := ?_) rfl (by kernel_rfl) (by kernel_rfl) (by kernel_rfl) (fun _ _ _ h => h) (by kernel_rfl) (fun _ _ _ _ => trivial) (by kernel_rfl) (by kernel_rfl) (Or.inl ⟨by rfl, ?_⟩) (fun c hc => by cases hc) (fun HU => ?_)
  rotate_left
  · intro u hSw
    try dsimp only at hSw
    go_simp
    try (with_reducible rfl)
  clear HU
  try simp only [Act.put, List.getElem_toArray, List.getElem_cons_succ, List.getElem_cons_zero, List.setIfInBounds_toArray, List.set_cons_zero, List.set_cons_succ]
  refine Orders.take (fun _ => True) [] (i := 3) (v := ?_) rfl (by kernel_rfl) (by kernel_rfl) (by kernel_rfl) (fun _ _ _ h => h) (by kernel_rfl) (fun _ _ _ _ => trivial) (by kernel_rfl) (by kernel_rfl) (Or.inl ⟨by rfl, ?_⟩) (fun c hc => by cases hc) (fun HU => ?_)
  rotate_left
  · intro u hSw
    try dsimp only at hSw
    go_simp
    try (with_reducible rfl)
  clear HU
  try simp only [Act.put, List.getElem_toArray, List.getElem_cons_succ, List.getElem_cons_zero, List.setIfInBounds_toArray, List.set_cons_zero, List.set_cons_succ]
  refine Orders.take (fun _ => True) [] (i := 5) (v := ?_) rfl (by kernel_rfl) (by kernel_rfl) (by kernel_rfl) (fun _ _ _ h => h) (by kernel_rfl) (fun _ _ _ _ => trivial) (by kernel_rfl) (by kernel_rfl) (Or.inl ⟨by rfl, ?_⟩) (fun c hc => by cases hc) (fun HU => ?_)
  rotate_left
  · intro u hSw
    try dsimp only at hSw
    go_simp
    try (with_reducible rfl)
  clear HU
  try simp only [Act.put, List.getElem_toArray, List.getElem_cons_succ, List.getElem_cons_zero, List.setIfInBounds_toArray, List.set_cons_zero, List.set_cons_succ]
  refine Orders.take (fun _ => True) [] (i := 6) (v := ?_) rfl (by kernel_rfl) (by kernel_rfl) (by kernel_rfl) (fun _ _ _ h => h) (by kernel_rfl) (fun _ _ _ _ => trivial) (by kernel_rfl) (by kernel_rfl) (Or.inl ⟨by rfl, ?_⟩) (fun c hc => by cases hc) (fun HU => ?_)
  rotate_left
  · intro u hSw
    try dsimp only at hSw
    go_simp
    try (with_reducible rfl)
  clear HU
  try simp only [Act.put, List.getElem_toArray, List.getElem_cons_succ, List.getElem_cons_zero, List.setIfInBounds_toArray, List.set_cons_zero, List.set_cons_succ]
  refine Orders.take (fun _ => True) [] (i := 7) (v := ?_) rfl (by kernel_rfl) (by kernel_rfl) (by kernel_rfl) (fun _ _ _ h => h) (by kernel_rfl) (fun _ _ _ _ => trivial) (by kernel_rfl) (by kernel_rfl) (Or.inl ⟨by rfl, ?_⟩) (fun c hc => by cases hc) (fun HU => ?_)
  rotate_left
  · intro u hSw
    try dsimp only at hSw
    go_simp
    try (with_reducible rfl)
  clear HU
  try simp only [Act.put, List.getElem_toArray, List.getElem_cons_succ, List.getElem_cons_zero, List.setIfInBounds_toArray, List.set_cons_zero, List.set_cons_succ]
  refine Orders.take (fun _ => True) [] (i := 8) (v := ?_) rfl (by kernel_rfl) (by kernel_rfl) (by kernel_rfl) (fun _ _ _ h => h) (by kernel_rfl) (fun _ _ _ _ => trivial) (by kernel_rfl) (by kernel_rfl) (Or.inl ⟨by rfl, ?_⟩) (fun c hc => by cases hc) (fun HU => ?_)
  rotate_left
  · intro u hSw
    try dsimp only at hSw
    go_simp
    try (with_reducible rfl)
  clear HU
  try simp only [Act.put, List.getElem_toArray, List.getElem_cons_succ, List.getElem_cons_zero, List.setIfInBounds_toArray, List.set_cons_zero, List.set_cons_succ]
  refine Orders.one (i := 0) (by kernel_rfl) rfl (fun K hK => ?_)
  go_simp
  refine hK.out _ _ (fun c hc => by cases hc) (fun HU => ?_)
  clear hK K HU
  try simp only [Act.put, List.getElem_toArray, List.getElem_cons_succ, List.getElem_cons_zero, List.setIfInBounds_toArray, List.set_cons_zero, List.set_cons_succ]
  obtain ⟨wx, hwx⟩ : ∃ x, x = (w2.alloc (.cells #[] 29)).drew := ⟨_, rfl⟩
  rw [← hwx]
  have hbx : Below w2.heap.size w2 wx := by rw [hwx]; exact ((Below.refl _ w2).alloc (Nat.le_refl _) _).drew
  have hgx : wx.heap[w2.heap.size]? = some (.cells #[] 29 (0, 0)) := by rw [hwx]; exact heap_alloc_new w2 _
  have hox : wx.ownsRow w2.heap.size 29 3 (.slice (some ⟨w2.heap.size, 0, none⟩) 0 0) 0 [] := ⟨rfl, .inr ⟨w2.heap.size, 0, #[], rfl, Nat.le_refl _, hgx, Nat.le_refl _, by unfold maxLen; omega, rfl, rfl⟩⟩
  have HX := hid (H2.out.below hbx)
  have hs1 : SrcC wx (.slice (some ⟨g, off, none⟩) k c) k (cels (l.take k)) := .inr ⟨⟨g, off, none⟩, c, rfl, fun j y hj => by rw [Addr.add_lit]; have h := HX.out; rw [← HN.out] at h; exact h.cels j y (cels_take l k j y hj)⟩
  have hl1 : (cels (l.take k)).length = k * 3 := by rw [cels_len, List.length_take, Nat.min_eq_left (by have := HN.out; omega)]
  have hlen : k ≤ 9000 := by have h1 := HL.out; have h2 := HN.out; omega
  have HBX := hid hbx
  have HK9 := hid hlen
  clear hwx hgx hbx
  refine Orders.one (i := 4) (by kernel_rfl) rfl (fun K hK => ?_)
  refine appsst rfl 26 29 (.tmp 13) (.tmp 16) rfl w2.heap.size 3 12 (.agg #[.int .u32 0, .int .u8 0, .int .u32 0]) Try.underlying26 (by kernel_rfl) rfl (by omega) _ _ 0 k k [] (cels (l.take k)) rfl rfl hox hs1 hl1 (cels_ones _) (by omega) (by omega) (by omega) HBX.out.size ?_
  intro ad1 cp1 w3 ho3 hg3
  refine hK.out _ _ (fun c hc => by cases hc) (fun HU => ?_)
  clear hK K HU hs1 hl1 hlen
  rw [List.nil_append] at ho3
  have hb3 : Below w2.heap.size wx w3 := below_of_keeps (Keeps.of_grown hg3) HBX.out.size fun k e => owns_blk_ge hox k e
  have HB3 := hid (HBX.out.trans hb3)
  have HX3 := hid (H2.out.below HB3.out)
  have HO3 := hid ho3
  clear hb3 hg3 hox
  try simp only [Act.put, List.getElem_toArray, List.getElem_cons_succ, List.getElem_cons_zero, List.setIfInBounds_toArray, List.set_cons_zero, List.set_cons_succ]
  have hs2 : SrcC w3 (.slice (if c = k + 1 then some ⟨g, off, none⟩ else some ⟨g, off + (k + 1) * 3, none⟩) (n - (k + 1)) (c - (k + 1))) (n - (k + 1)) (cels (l.drop (k + 1))) := by
    refine .inr ⟨if c = k + 1 then ⟨g, off, none⟩ else ⟨g, off + (k + 1) * 3, none⟩, c - (k + 1), by split <;> rfl, fun j y hj => ?_⟩
    have hjl := (List.getElem?_eq_some_iff.1 hj).1
    rw [cels_len, List.length_drop] at hjl
    have h1 := HN.out
    rw [if_neg (by omega), Addr.add_lit]
    have h := HX3.out
    rw [← HN.out] at h
    have h2 := h.cels _ y (cels_drop l (k + 1) j y (by omega) hj)
    rw [show off + (k + 1) * 3 + j = off + ((k + 1) * 3 + j) by omega]
    exact h2
  have hl2 : (cels (l.drop (k + 1))).length = (n - (k + 1)) * 3 := by rw [cels_len, List.length_drop, HN.out]
  have hlen : n ≤ 9000 := by have h1 := HL.out; have h2 := HN.out; omega
  refine Orders.one (i := 9) (by kernel_rfl) rfl (fun K hK => ?_)
  refine appsst rfl 26 29 (.tmp 17) (.tmp 21) rfl w2.heap.size 3 12 (.agg #[.int .u32 0, .int .u8 0, .int .u32 0]) Try.underlying26 (by kernel_rfl) rfl (by omega) _ _ k (n - (k + 1)) (n - 1) _ (cels (l.drop (k + 1))) rfl rfl HO3.out hs2 hl2 (cels_ones _) (by omega) (by omega) (by omega) HB3.out.size ?_
  intro ad2 cp2 w4 ho4 hg4
  refine hK.out _ _ (fun c hc => by cases hc) (fun HU => ?_)
  clear hK K HU hs2 hl2 hlen
  have HB4 := hid (show Below w.heap.size w w4 from HB2.out.trans ((HB3.out.trans (below_of_keeps (Keeps.of_grown hg4) HB3.out.size fun k e => owns_blk_ge HO3.out k e)).mono HB2.out.size))
  have HO4 := hid (show w4.ownsRow w.heap.size 29 3 (.slice ad2 (n - 1) cp2) l2.length (cels l2) by
    rw [HL2.out, cels_app, show (l.take k ++ l.drop (k + 1)).length = n - 1 by rw [List.length_append, List.length_take, List.length_drop]; have := HN.out; have := HKN.out; omega]
    exact owns_base ho4 HB2.out.size)
  clear ho4 hg4
  try simp only [Act.put, List.getElem_toArray, List.getElem_cons_succ, List.getElem_cons_zero, List.setIfInBounds_toArray, List.set_cons_zero, List.set_cons_succ]
  refine Orders.one (i := 10) (by kernel_rfl) rfl (fun K hK => ?_)
  go_simp
  refine hK.out _ _ (fun c hc => by cases hc) (fun HU => ?_)
  clear hK K HU
  try simp only [Act.put, List.getElem_toArray, List.getElem_cons_succ, List.getElem_cons_zero, List.setIfInBounds_toArray, List.set_cons_zero, List.set_cons_succ]
  refine Orders.one (i := 11) (by kernel_rfl) rfl (fun K hK => ?_)
  go_simp
  refine hK.out _ _ (fun c hc => by cases hc) (fun HU => ?_)
  clear hK K HU
  try simp only [Act.put, List.getElem_toArray, List.getElem_cons_succ, List.getElem_cons_zero, List.setIfInBounds_toArray, List.set_cons_zero, List.set_cons_succ]
  refine Orders.ends (by kernel_rfl) ?_ _
  go_wp2_with fail
  all_goals
    go_ret2
    exact ⟨_, rfl, HO4.out, HB4.out⟩

end Go.Proofs.Ytcgfechodbmimaa
