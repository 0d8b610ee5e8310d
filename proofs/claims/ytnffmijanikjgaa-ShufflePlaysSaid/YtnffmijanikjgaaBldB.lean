/-
  Layer 13: build: a matrix and the document's, of Stands.
-/
import Derived.Test.YtnffmijanikjgaaBldA
namespace Go.Proofs.Ytnffmijanikjgaa
open Go.RowKit Go.Shelf
set_option linter.unusedVariables false

/-- Both matrices, the program's at the block w.heap.size. -/
structure Both12 (w : World) (lo : Nat) (G : Geo) (r n : Nat) (m : Mx) (wr : World) : Prop where
  at_ : MxAt wr w.heap.size m
  rx : RxAt wr lo G m
  one : One m
  mr : m.r = r
  mn : m.n = n
  bel : Below w.heap.size w wr
  lo1 : w.heap.size < lo

theorem Both12.below {w : World} {lo : Nat} {G : Geo} {r n : Nat} {m : Mx} {wr w' : World} (h : Both12 w lo G r n m wr) (hb : Below wr.heap.size wr w') : Both12 w lo G r n m w' :=
  ⟨h.at_.below hb h.at_.lt, h.rx.below hb (Nat.le_refl _), h.one, h.mr, h.mn, h.bel.trans (hb.mono h.bel.size), h.lo1⟩

/-- Both Puts. -/
theorem Both12.put {w : World} {lo : Nat} {G : Geo} {r n : Nat} {m : Mx} {wr w5 w6 : World} {j : Nat} {row : Int} {l : List Int} (h : Both12 w lo G r n m wr) (hm5 : MxAt w5 w.heap.size (m.putM j row l)) (hk5 : Keeps (fun k => k = w.heap.size) wr w5) (hr6 : RxAt w6 lo G (m.putM j row l)) (hk6 : Keeps (G.own m.r) w5 w6) : Both12 w lo G r n (m.putM j row l) w6 := by
  have hn16 := h.at_.n16
  refine ⟨hm5.block (hk6.block w.heap.size hm5.lt ?_), hr6, h.one.putM hn16, (putM_r _ _ _ _).trans h.mr, (putM_n _ _ _ _).trans h.mn, h.bel.trans ((hk5.below (Nat.le_of_lt h.at_.lt) (fun i hi => by omega)).trans (hk6.below (Nat.le_trans (Nat.le_of_lt h.at_.lt) hk5.size) ?_)), h.lo1⟩
  · rintro ⟨i, hi, e⟩
    have := h.rx.log i hi
    have := h.lo1
    omega
  · rintro i ⟨q, hq, rfl⟩
    have := h.rx.log q hq
    have := h.lo1
    omega

theorem Both12.turned {w : World} {lo : Nat} {G : Geo} {r n : Nat} {m : Mx} {wr w7 : World} {q : Nat} {u v : Bool} (h : Both12 w lo G r n m wr) (hm7 : MxAt w7 w.heap.size (m.turn q u)) (hk7 : Keeps (fun k => k = w.heap.size) wr w7) (hr8 : RxAt (w7.setCell ⟨G.bu, q, none⟩ (.bool v)) lo G (m.turn q u)) (hk8 : Keeps (fun k => k = G.bu) w7 (w7.setCell ⟨G.bu, q, none⟩ (.bool v))) : Both12 w lo G r n (m.turn q u) (w7.setCell ⟨G.bu, q, none⟩ (.bool v)) := by
  have hlo : w.heap.size < G.bu := by have := h.rx.lou; have := h.lo1; omega
  refine ⟨hm7.block (hk8.block w.heap.size hm7.lt (by omega)), hr8, h.one.turn, h.mr, h.mn, h.bel.trans ((hk7.below (Nat.le_of_lt h.at_.lt) (fun i hi => by omega)).trans (hk8.below (Nat.le_trans (Nat.le_of_lt h.at_.lt) hk7.size) (fun i hi => by omega))), h.lo1⟩

def Build13 (w : World) (r n : Nat) (e : Ending) (w' : World) : Prop :=
  ∃ (lo : Nat) (G : Geo) (m : Mx), e = .returned (.tuple #[.pointer (some ⟨w.heap.size, 0, none⟩), .pointer (some ⟨G.x, 0, none⟩)]) ∧ Both12 w lo G r n m w'

set_option maxRecDepth 100000 in
set_option maxHeartbeats 8000000 in
theorem build13_any (w : World) (rr nn dn : Nat) (hrr : rr < 256) (hnn : nn < 256) (hdn : dn < 65536) (a : Option Addr) (len cap : Nat) (hs : IsStands w a len cap) :
    Calls Try.prog 25 #[.int .u8 (rr : Nat), .int .u8 (nn : Nat), .slice a len cap, .int .u16 (dn : Nat)] w (Build13 w (1 + rr % 8) (1 + nn % 16)) := by
  have hbd := hs.bounds
  obtain ⟨hlc, hcm⟩ := hbd
  have HS := hid hs
  clear hs
  obtain ⟨r, hr⟩ : ∃ r, r = 1 + rr % 8 := ⟨_, rfl⟩
  obtain ⟨n, hn⟩ : ∃ n, n = 1 + nn % 16 := ⟨_, rfl⟩
  obtain ⟨r7, hr7⟩ : ∃ q, q = rr % 8 := ⟨_, rfl⟩
  obtain ⟨n7, hn7⟩ : ∃ q, q = nn % 16 := ⟨_, rfl⟩
  have e1 : (rr : Int) % 8 = (r7 : Int) := by omega
  have e2 : (rr : Int).tmod 8 = (r7 : Int) := by rw [Int.tmod_eq_emod_of_nonneg (by omega)]; exact e1
  have e3 : 1 + (r7 : Int) = (r : Int) := by omega
  have f1 : (nn : Int) % 16 = (n7 : Int) := by omega
  have f2 : (nn : Int).tmod 16 = (n7 : Int) := by rw [Int.tmod_eq_emod_of_nonneg (by omega)]; exact f1
  have f3 : 1 + (n7 : Int) = (n : Int) := by omega
  have hr1 : 1 ≤ r := by omega
  have hr8 : r ≤ 8 := by omega
  have hn1 : 1 ≤ n := by omega
  have hn16 : n ≤ 16 := by omega
  have b1 : (r7 : Int) < 8 := by omega
  have b2 : (n7 : Int) < 16 := by omega
  have b3 : (rr : Int) < 256 := by omega
  have b4 : (nn : Int) < 256 := by omega
  rw [← hr, ← hn]
  clear hr hn hr7 hn7 hrr hnn hdn
  go_enter Try.func25, Try.ntmps25
  go_wp2_with fail
  refine (new_yes w r n hr1 hr8 hn1 hn16).mono ?_
  rintro e w1 ⟨rfl, hm1, hb1⟩
  have hl1 := hm1.lt
  have HM1 := hid hm1
  have HB1 := hid hb1
  clear hm1 hb1
  go_wp2_with fail
  refine (rnew_yes w1 r n hr1 hr8 hn1 hn16).mono ?_
  rintro e w2 ⟨G, rfl, hx2, hb2⟩
  obtain ⟨lo, hlo⟩ : ∃ lo, lo = w1.heap.size := ⟨_, rfl⟩
  have HX := hid (show Both12 w lo G r n (mx0 r n) w2 from ⟨HM1.out.below hb2 hl1, by rw [hlo]; exact hx2, one0 r n, rfl, rfl, HB1.out.trans (hb2.mono (by omega)), by omega⟩)
  have hn16i : (n : Int) ≤ 16 := by omega
  have hn1i : (1 : Int) ≤ (n : Int) := by omega
  have hr8i : (r : Int) ≤ 8 := by omega
  have hr1i : (1 : Int) ≤ (r : Int) := by omega
  clear hx2 hb2 hlo e1 e2 e3 f1 f2 f3 b1 b2 b3 b4 hn16 hn1 hr8 hr1
  go_wp2_with fail
  go_loopw [43] (fun i wr => ∃ (k : Nat) (m : Mx), k ≤ len ∧ k ≤ 40 ∧ i = .int .i64 k ∧ Both12 w lo G r n m wr) (fun i _ => len - (intOf i).toNat)
  case atStart => exact ⟨0, _, Nat.zero_le _, by decide, rfl, HX.out⟩
  case round =>
    obtain ⟨k, m, hk, hk40, rfl, hX⟩ := hrel
    have HX := hid hX
    have HK40 := hid hk40
    clear hX hk40
    by_cases hlt : k < len
    · have hki : (k : Int) < (len : Int) := by omega
      obtain ⟨sb, so, rfl, hsb, d, sn, hrg, hd8, hn65⟩ := (HS.out.below (HX.out.bel)).at k hlt
      have HRG := hid hrg
      have hd8i : (d : Int) < 256 := by omega
      clear hrg hd8 hn65
      by_cases h40 : k < 40
      · have h40i : (k : Int) < 40 := by omega
        clear h40
        go_upto_region 7 with (first
          | (refine wpList_load_mid rfl 101 (.tmp 46) rfl sb (so + k * 2) rfl _ _ HRG.out Try.underlying101 rfl (by rw [size_std]; rfl) ?_)
          | (refine std_fresh rfl (.tmp 17) (.tmp 47) rfl wr (scells d sn) rfl rfl rfl (by simp [Value.oneCell']) ?_; intro wo hgo hbo; have HGO := hid hgo; have HBO := hid hbo; clear hgo hbo)
          | fail)
        obtain ⟨gs, hgs⟩ : ∃ g, g = wr.heap.size := ⟨_, rfl⟩
        rw [← hgs] at HGO
        rw [← hgs]
        have HGS := hid hgs
        have HXO := hid (HX.out.below HBO.out)
        have hso : gs < wo.heap.size := (Array.getElem?_eq_some_iff.1 HGO.out).1
        have hs0 := HBO.out.size
        have g0 : wo.cell? ⟨gs, 1, none⟩ = some (.int .u16 (sn : Nat)) := (cell_of_row _ _ _ _ _ _ HGO.out).trans rfl
        have HSR := hid (show w.heap.size < gs ∧ gs < wo.heap.size from ⟨by rw [hgs]; exact HX.out.at_.lt, hso⟩)
        clear HX HRG hgs
        go_wp2_with fail
        go_loopw [18, 51] (fun v i wr => ∃ (q : Nat) (l : List Nat), q ≤ n ∧ i = .int .i64 q ∧ l.length ≤ q ∧ wr.ownsRow wo.heap.size 3 1 v l.length (l.map iv) ∧ Below wo.heap.size wo wr) (fun _ i _ => n - (intOf i).toNat)
        case atStart => exact ⟨0, [], Nat.zero_le _, rfl, Nat.le_refl _, World.ownsRow_nil _ _ _ _, Below.refl _ _⟩
        case round =>
          obtain ⟨q, l, hq, rfl, hlq, hv, hB⟩ := hrel
          have HV := hid hv
          have HB := hid hB
          have hs2 := hB.size
          obtain ⟨av, cv, rfl, hcv1, hcv2⟩ := owns_slice hv
          have g1 : wr.cell? ⟨gs, 1, none⟩ = some (.int .u16 (sn : Nat)) := (hB.cell (p := ⟨gs, 1, none⟩) hso).trans g0
          have g2 : wr.cell? ⟨gs, 0, none⟩ = some (.int .u8 (d : Nat)) := (hB.cell (p := ⟨gs, 0, none⟩) hso).trans ((cell_of_row _ _ _ _ _ _ HGO.out).trans rfl)
          clear hv hB
          by_cases hql : q < n
          · have hqi : (q : Int) < (n : Int) := by omega
            have hq16 : (q : Int) < 16 := by omega
            have hsrc := hid (SrcC.lit wr #[.int .i64 (q : Nat)] 3 1 [iv q] rfl)
            have hof := hid (owns_below HV.out ((Below.refl _ _).alloc (Nat.le_refl _) (.cells #[.int .i64 (q : Nat)] 3)))
            generalize hll : l.length = ll at *
            have HLL := hid hll
            clear hll
            go_wp2_with (at_builtin; (refine appsw (by rfl) 34 3 (.tmp 60) (.tmp 62) rfl wo.heap.size 1 8 _ Try.underlying34 Try.infoInt rfl (by decide) _ _ ll 1 (ll + 1) _ _ rfl rfl hof.out hsrc.out rfl (by intro y hy; rw [List.mem_singleton] at hy; subst hy; rfl) rfl (by omega) (by omega) (by simp; omega) ?_); intro ad9 cp9 wA hoA hgA; have HOA := hid hoA; have HGA := hid hgA; clear hoA hgA)
            · have hbA : Below wo.heap.size wo wA := (HB.out.alloc (by omega) (.cells #[.int .i64 (q : Nat)] 3)).grown HGA.out (by simp; omega) (fun g hg => (World.ownsRow.lt HV.out g hg).1)
              have HBA := hid hbA
              clear hbA
              go_roundw
              case rel => exact ⟨q + 1, l ++ [q], by omega, by go_num, by rw [List.length_append, HLL.out]; simp; omega, by rw [List.length_append, HLL.out, List.map_append]; exact HOA.out, HBA.out⟩
              case measure => simp [intOf]; omega
            · go_roundw
              case rel => exact ⟨q + 1, l, by omega, by go_num, by rw [HLL.out]; omega, by rw [HLL.out]; exact HV.out, HB.out⟩
              case measure => simp [intOf]; omega
          · have hqi : ¬ (q : Int) < (n : Int) := by omega
            have HX := hid (HXO.out.below HB.out)
            have HRD := hid (show RdV wr (.slice av l.length cv) ((l.map Int.ofNat).map iw) by rw [iv_map]; exact RdV.of_own HV.out)
            have HAV := hid (show ∀ g o, av = some ⟨g, o, none⟩ → wo.heap.size ≤ g ∧ g < wr.heap.size from fun g o e => by
              subst e
              rcases owns_shape HV.out with ⟨h1, _⟩ | ⟨g', c', h1, h2, h3, _⟩
              · cases h1
              · simp only [Value.slice.injEq, Option.some.injEq, Addr.mk.injEq] at h1
                omega)
            obtain ⟨z, hz⟩ : ∃ z, z = d % r := ⟨_, rfl⟩
            have z1 : (d : Int) % (r : Int) = (z : Int) := by rw [hz]; exact (Int.natCast_emod d r).symm
            have z2 : (d : Int).tmod (r : Int) = (z : Int) := by rw [Int.tmod_eq_emod_of_nonneg (by omega)]; exact z1
            have z3 : (z : Int) < (r : Int) := by have := Nat.mod_lt d (show 0 < r by omega); omega
            have z4 : IntKind.u32.wrap ((k : Int) + 1) = ((k + 1 : Nat) : Int) := by rw [IntKind.wrap_u32]; omega
            have z5 : ((r : Int) == 0) = false := by rw [beq_eq_false_iff_ne]; omega
            have z6 : (1 : Int) ≤ (r : Int) := by omega
            have z7 : (r : Int) ≤ 8 := by omega
            have HP := hid (put_all wr w.heap.size (k + 1) (z : Nat) _ (l.map Int.ofNat) m HX.out.at_ HRD.out (by
              rintro g o n' c' e
              simp only [Value.slice.injEq] at e
              have := HAV.out g o e.1
              have := HSR.out
              omega) (by omega))
            clear hz hql
            go_wp2_with fail
            refine HP.out.mono ?_
            rintro e w5 ⟨rfl, hm5, hk5⟩
            have hs5 := hk5.size
            have HM5 := hid hm5
            have HK5 := hid hk5
            have HR5 := hid (HX.out.rx.keeps hk5 (fun k hk e => by have := HX.out.rx.low k hk; have := HX.out.lo1; omega))
            have h2' : w5.cell? ⟨gs, 0, none⟩ = some (.int .u8 (d : Nat)) := (hk5.cell (p := ⟨gs, 0, none⟩) (show gs < wr.heap.size by have := HSR.out; omega) (show ¬ gs = w.heap.size by have := HSR.out; omega)).trans g2
            have HRD5 := hid (HRD.out.blk hk5 (fun g o e => by have := HAV.out g o e; have := HSR.out; omega))
            have HP5 := hid (rput_all w5 lo G (k + 1) (z : Nat) _ (l.map Int.ofNat) m HR5.out HRD5.out (by
              rintro g o n' c' e ⟨i, hi, rfl⟩
              simp only [Value.slice.injEq] at e
              have h1 := HAV.out _ o e.1
              have h2 := HXO.out.rx.lt (G.g i) (.inr (.inr (.inr ⟨i, hi, rfl⟩)))
              omega) (by omega))
            clear hm5 hk5 g1 g2
            go_wp2_with fail
            refine HP5.out.mono ?_
            rintro e w6 ⟨rfl, hr6, hk6⟩
            have HN := hid (HX.out.put HM5.out HK5.out hr6 hk6)
            clear hr6 hk6
            go_wp2_with fail
            go_roundw
            case rel => exact ⟨k + 1, _, by omega, by omega, by go_num, HN.out⟩
            case measure => simp [intOf]; omega
      · have h40i : ¬ (k : Int) < 40 := by omega
        have h40j : (40 : Int) ≤ (k : Int) := by omega
        clear h40
        go_upto_region 7 with (first
          | (refine wpList_load_mid rfl 101 (.tmp 46) rfl sb (so + k * 2) rfl _ _ HRG.out Try.underlying101 rfl (by rw [size_std]; rfl) ?_)
          | (refine std_fresh rfl (.tmp 17) (.tmp 47) rfl wr (scells d sn) rfl rfl rfl (by simp [Value.oneCell']) ?_; intro wo hgo hbo; have HGO := hid hgo; have HBO := hid hbo; clear hgo hbo)
          | fail)
        have HX2 := hid (HX.out.below HBO.out)
        clear HX HRG
        have HX := hid HX2.out
        clear HX2
        go_wp2_with fail
        go_loopw [89] (fun i wr => ∃ (q : Nat) (m : Mx), q ≤ n ∧ i = .int .i64 q ∧ Both12 w lo G r n m wr) (fun i _ => n - (intOf i).toNat)
        case atStart => exact ⟨0, _, Nat.zero_le _, rfl, HX.out⟩
        case round =>
          obtain ⟨q, m, hq, rfl, hX⟩ := hrel
          have HX := hid hX
          clear hX
          by_cases hql : q < n
          · have hqi : (q : Int) < (n : Int) := by omega
            have hq16 : (q : Int) < 16 := by omega
            have hqm : q < m.n := by have := HX.out.mn; omega
            have HUP := hid (up_yes wr w.heap.size m q false HX.out.at_ hqm)
            go_wp2_with fail
            · refine HUP.out.mono ?_
              rintro e w7 ⟨rfl, hm7, hk7⟩
              have hr7 := HX.out.rx.keeps hk7 (fun k hk e => by have := HX.out.rx.low k hk; have := HX.out.lo1; omega)
              have hs7 := hk7.size
              have HM7 := hid hm7
              have HK7 := hid hk7
              have HR7 := hid hr7
              have c1 := hr7.c1
              rw [HX.out.mn] at c1
              have hfz := hr7.upf q
              have hcu := hr7.up q hqm
              have hcum := hr7.cum
              have hcuc := hr7.cur
              rw [HX.out.mn] at hcuc
              have HT := hid (hr7.turn q false hqm)
              have HK8 := hid (kset12 w7 G.bu q (.bool false))
              clear hm7 hk7 hr7
              go_wp2_with fail
              go_roundw
              case rel => exact ⟨q + 1, m.turn q (!false), by omega, by go_num, HX.out.turned HM7.out HK7.out HT.out HK8.out⟩
              case measure => simp [intOf]; omega
            · go_roundw
              case rel => exact ⟨q + 1, m, by omega, by go_num, HX.out⟩
              case measure => simp [intOf]; omega
          · have hqi : ¬ (q : Int) < (n : Int) := by omega
            clear hql
            go_wp2
            go_ret2
            exact ⟨_, _, _, rfl, HX.out⟩
    · have hki : ¬ (k : Int) < (len : Int) := by omega
      clear hlt
      go_wp2_with fail
      go_loopw [89] (fun i wr => ∃ (q : Nat) (m : Mx), q ≤ n ∧ i = .int .i64 q ∧ Both12 w lo G r n m wr) (fun i _ => n - (intOf i).toNat)
      case atStart => exact ⟨0, _, Nat.zero_le _, rfl, HX.out⟩
      case round =>
        obtain ⟨q, m, hq, rfl, hX⟩ := hrel
        have HX := hid hX
        clear hX
        by_cases hql : q < n
        · have hqi : (q : Int) < (n : Int) := by omega
          have hq16 : (q : Int) < 16 := by omega
          have hqm : q < m.n := by have := HX.out.mn; omega
          have HUP := hid (up_yes wr w.heap.size m q false HX.out.at_ hqm)
          go_wp2_with fail
          · refine HUP.out.mono ?_
            rintro e w7 ⟨rfl, hm7, hk7⟩
            have hr7 := HX.out.rx.keeps hk7 (fun k hk e => by have := HX.out.rx.low k hk; have := HX.out.lo1; omega)
            have hs7 := hk7.size
            have HM7 := hid hm7
            have HK7 := hid hk7
            have HR7 := hid hr7
            have c1 := hr7.c1
            rw [HX.out.mn] at c1
            have hfz := hr7.upf q
            have hcu := hr7.up q hqm
            have hcum := hr7.cum
            have hcuc := hr7.cur
            rw [HX.out.mn] at hcuc
            have HT := hid (hr7.turn q false hqm)
            have HK8 := hid (kset12 w7 G.bu q (.bool false))
            clear hm7 hk7 hr7
            go_wp2_with fail
            go_roundw
            case rel => exact ⟨q + 1, m.turn q (!false), by omega, by go_num, HX.out.turned HM7.out HK7.out HT.out HK8.out⟩
            case measure => simp [intOf]; omega
          · go_roundw
            case rel => exact ⟨q + 1, m, by omega, by go_num, HX.out⟩
            case measure => simp [intOf]; omega
        · have hqi : ¬ (q : Int) < (n : Int) := by omega
          clear hql
          go_wp2
          go_ret2
          exact ⟨_, _, _, rfl, HX.out⟩

end Go.Proofs.Ytnffmijanikjgaa
