/-
  Layer 15: build: a matrix and the document's, of Stands, and who may have to go, twice.
  Layer 15: the document's example.
  Victim, plainly: room; whoever is told in whatever order; who goes one by one.
  The document's victim: tierOf, the greatest tier of jobs.
  The document's victim: who goes of one row.
  The document's Choose of layer 15; the program's Of and Choose, where there is no such row, or no matrix.
  Layer 15: what is told, flat: of a row that there isn't, of no matrix, too.
-/
import Derived.Test.YtdongghjchnpbaaVc1
import Derived.Test.YtdongghjchnpbaaStd
import Derived.Test.YtdongghjchnpbaaRowX
import Derived.Test.YtdongghjchnpbaaRowG
import Derived.Test.YtdongghjchnpbaaRxK
import Derived.Test.YtdongghjchnpbaaRxE
import Derived.Test.YtdongghjchnpbaaUntil
import Derived.Test.YtdongghjchnpbaaRowV
namespace Go.Proofs.Ytdongghjchnpbaa
open Go.RowKit Go.Shelf
set_option linter.unusedVariables false

/-- Both matrices, the program's at the block w.heap.size. -/
structure Both12 (w : World) (lo : Nat) (G : Geo) (r n : Nat) (m : Mx) (wr : World) : Prop where
  at_ : MxAt wr w.heap.size m
  rx : RxAt wr lo G m
  one : One m
  mr : m.r = r
  mn : m.n = n
  bel : Below w.heap.size w wr
  lo1 : w.heap.size < lo

theorem Both12.below {w : World} {lo : Nat} {G : Geo} {r n : Nat} {m : Mx} {wr w' : World} (h : Both12 w lo G r n m wr) (hb : Below wr.heap.size wr w') : Both12 w lo G r n m w' :=
  ⟨h.at_.below hb h.at_.lt, h.rx.below hb (Nat.le_refl _), h.one, h.mr, h.mn, h.bel.trans (hb.mono h.bel.size), h.lo1⟩

/-- Both Puts. -/
theorem Both12.put {w : World} {lo : Nat} {G : Geo} {r n : Nat} {m : Mx} {wr w5 w6 : World} {j : Nat} {row : Int} {l : List Int} (h : Both12 w lo G r n m wr) (hm5 : MxAt w5 w.heap.size (m.putM j row l)) (hk5 : Keeps (fun k => k = w.heap.size) wr w5) (hr6 : RxAt w6 lo G (m.putM j row l)) (hk6 : Keeps (G.own m.r) w5 w6) : Both12 w lo G r n (m.putM j row l) w6 := by
  have hn16 := h.at_.n16
  refine ⟨hm5.block (hk6.block w.heap.size hm5.lt ?_), hr6, h.one.putM hn16, (putM_r _ _ _ _).trans h.mr, (putM_n _ _ _ _).trans h.mn, h.bel.trans ((hk5.below (Nat.le_of_lt h.at_.lt) (fun i hi => by omega)).trans (hk6.below (Nat.le_trans (Nat.le_of_lt h.at_.lt) hk5.size) ?_)), h.lo1⟩
  · rintro ⟨i, hi, e⟩
    have := h.rx.log i hi
    have := h.lo1
    omega
  · rintro i ⟨q, hq, rfl⟩
    have := h.rx.log q hq
    have := h.lo1
    omega

theorem Both12.turned {w : World} {lo : Nat} {G : Geo} {r n : Nat} {m : Mx} {wr w7 : World} {q : Nat} {u v : Bool} (h : Both12 w lo G r n m wr) (hm7 : MxAt w7 w.heap.size (m.turn q u)) (hk7 : Keeps (fun k => k = w.heap.size) wr w7) (hr8 : RxAt (w7.setCell ⟨G.bu, q, none⟩ (.bool v)) lo G (m.turn q u)) (hk8 : Keeps (fun k => k = G.bu) w7 (w7.setCell ⟨G.bu, q, none⟩ (.bool v))) : Both12 w lo G r n (m.turn q u) (w7.setCell ⟨G.bu, q, none⟩ (.bool v)) := by
  have hlo : w.heap.size < G.bu := by have := h.rx.lou; have := h.lo1; omega
  refine ⟨hm7.block (hk8.block w.heap.size hm7.lt (by omega)), hr8, h.one.turn, h.mr, h.mn, h.bel.trans ((hk7.below (Nat.le_of_lt h.at_.lt) (fun i hi => by omega)).trans (hk8.below (Nat.le_trans (Nat.le_of_lt h.at_.lt) hk7.size) (fun i hi => by omega))), h.lo1⟩


theorem RxAt.ty15 {w : World} {lo : Nat} {G : Geo} {m : Mx} (h : RxAt w lo G m) : ∀ k, G.all m.r k → ∃ cs t, w.heap[k]? = some (.cells cs t (0, 0)) ∧ t ∈ [49, 60, 4, 33] := by
  rintro k (rfl | rfl | rfl | ⟨i, hi, rfl⟩)
  · exact ⟨_, _, h.blk, by simp⟩
  · obtain ⟨z, h1, _⟩ := h.rows; exact ⟨_, _, h1, by simp⟩
  · obtain ⟨z, h1, _⟩ := h.ups; exact ⟨_, _, h1, by simp⟩
  · obtain ⟨z, h1, _⟩ := h.cells i hi; exact ⟨_, _, h1, by simp⟩

/-- A row of other things lies elsewhere. -/
theorem RxAt.far15 {w : World} {lo base : Nat} {G : Geo} {m : Mx} {e : TypeId} {size : Nat} {v : Value} {n : Nat} {xs : List Value} (h : RxAt w lo G m) (hv : w.ownsRow base e size v n xs) (he : e ∉ [49, 60, 4, 33]) : ∀ g, v.ownBlock = some g → ¬ G.all m.r g := by
  intro g hg ha
  obtain ⟨cs, t, h1, h2⟩ := h.ty15 g ha
  obtain ⟨cur, h3⟩ := owns_ty hv g hg
  rw [h1] at h3
  simp only [Option.some.injEq, Obj.cells.injEq] at h3
  exact he (h3.2.1 ▸ h2)

theorem Both12.kt {w : World} {lo : Nat} {G : Geo} {r n : Nat} {m : Mx} {wr w' : World} {ts : List TypeId} (h : Both12 w lo G r n m wr) (hk : KT ts lo wr w') (h1 : ∀ t ∈ [49, 60, 4, 33, 89], t ∉ ts) : Both12 w lo G r n m w' :=
  ⟨h.at_.block ((hk.block h.at_.blk (h1 _ (by simp))).trans h.at_.blk.symm), h.rx.to (fun k ha => by
    obtain ⟨cs, t, h2, h3⟩ := h.rx.ty15 k ha
    rw [hk.block h2 (h1 t (by simp only [List.mem_cons, List.not_mem_nil, or_false] at h3; rcases h3 with rfl | rfl | rfl | rfl <;> simp)), h2]), h.one, h.mr, h.mn, h.bel.trans (hk.below.mono (Nat.le_of_lt h.lo1)), h.lo1⟩

/-- Both matrices, and who may have to go, twice. -/
structure Both15 (w : World) (lo : Nat) (G : Geo) (r n : Nat) (S : Nat → St15) (m : Mx) (k : Nat) (va vb : Value) (wr : World) : Prop where
  b : Both12 w lo G r n m wr
  la : wr.ownsRow lo 80 2 va (cands S k).length (ccels (cands S k))
  lb : wr.ownsRow lo 104 2 vb (cands S k).length (ccels (cands S k))

theorem Both15.below {w : World} {lo : Nat} {G : Geo} {r n : Nat} {S : Nat → St15} {m : Mx} {k : Nat} {va vb : Value} {wr w' : World} (h : Both15 w lo G r n S m k va vb wr) (hb : Below wr.heap.size wr w') : Both15 w lo G r n S m k va vb w' :=
  ⟨h.b.below hb, owns_below h.la hb, owns_below h.lb hb⟩

theorem Both15.kept {w : World} {lo : Nat} {G : Geo} {r n : Nat} {S : Nat → St15} {m m' : Mx} {k : Nat} {va vb : Value} {wr w5 w6 : World} {T : Nat → Prop} (h : Both15 w lo G r n S m k va vb wr) (hk5 : Keeps (fun k => k = w.heap.size) wr w5) (hk6 : Keeps T w5 w6) (hT : ∀ q, T q → G.all m.r q) (hb : Both12 w lo G r n m' w6) : Both15 w lo G r n S m' k va vb w6 := by
  have hlo := h.b.lo1
  have key : ∀ {e : TypeId} {v : Value} {xs : List Value} {c : Nat}, wr.ownsRow lo e 2 v c xs → e ∉ [49, 60, 4, 33] → w6.ownsRow lo e 2 v c xs := fun hv he => owns_by hv fun q hq => by
    have h1 := World.ownsRow.lt hv q hq
    have h2 := h.b.rx.far15 hv he q hq
    rw [hk6.block q (Nat.lt_of_lt_of_le h1.2 hk5.size) (fun ht => h2 (hT q ht)), hk5.block q h1.2 (by omega)]
  exact ⟨hb, key h.la (by decide), key h.lb (by decide)⟩

theorem Both15.skip {w : World} {lo : Nat} {G : Geo} {r n : Nat} {S : Nat → St15} {m : Mx} {k : Nat} {va vb : Value} {wr : World} (h : Both15 w lo G r n S m k va vb wr) (hq : (S k).q = true) : Both15 w lo G r n S m (k + 1) va vb wr := by
  have e : cands S (k + 1) = cands S k := by rw [cands_succ, hq]; simp
  exact ⟨h.b, by rw [e]; exact h.la, by rw [e]; exact h.lb⟩

theorem Both15.add {w : World} {lo : Nat} {G : Geo} {r n : Nat} {S : Nat → St15} {m : Mx} {k : Nat} {va vb va' vb' : Value} {wr wA wB : World} (h : Both15 w lo G r n S m k va vb wr) (hq : (S k).q = false) (hkA : KT [80] lo wr wA) (hA : wA.ownsRow lo 80 2 va' ((cands S k).length + 1) (ccels (cands S k) ++ [.int .u32 ((k + 1 : Nat) : Int), .int .u8 ((S k).t : Nat)])) (hkB : KT [104] lo wA wB) (hB : wB.ownsRow lo 104 2 vb' ((cands S k).length + 1) (ccels (cands S k) ++ [.int .u32 ((k + 1 : Nat) : Int), .int .u8 ((S k).t : Nat)])) : Both15 w lo G r n S m (k + 1) va' vb' wB := by
  have e : cands S (k + 1) = cands S k ++ [(k + 1, (S k).t)] := by rw [cands_succ, hq]; simp
  refine ⟨(h.b.kt hkA (by decide)).kt hkB (by decide), ?_, ?_⟩
  · rw [e, ccels_snoc, List.length_append, List.length_singleton]; exact owns_kt hA hkB (by decide)
  · rw [e, ccels_snoc, List.length_append, List.length_singleton]; exact hB

theorem results_tmp4 {fn : Func} {t u v q : Tmp} (h : fn.results = #[.tmp t, .tmp u, .tmp v, .tmp q]) (tmps : Array Value) (P : Program) (w : World) :
    (results fn tmps).run P w = .ok (.tuple #[tmps.getD t undef, tmps.getD u undef, tmps.getD v undef, tmps.getD q undef]) w := by
  simp [results, h]

def Both15.fst {w : World} {lo : Nat} {G : Geo} {r n : Nat} {S : Nat → St15} {m : Mx} {k : Nat} {va vb : Value} {wr : World} (_ : Both15 w lo G r n S m k va vb wr) : Value := va
def Both15.snd {w : World} {lo : Nat} {G : Geo} {r n : Nat} {S : Nat → St15} {m : Mx} {k : Nat} {va vb : Value} {wr : World} (_ : Both15 w lo G r n S m k va vb wr) : Value := vb

def Build15 (w : World) (r n : Nat) (S : Nat → St15) (len : Nat) (e : Ending) (w' : World) : Prop :=
  ∃ (lo : Nat) (G : Geo) (m : Mx) (va vb : Value), e = .returned (.tuple #[.pointer (some ⟨w.heap.size, 0, none⟩), .pointer (some ⟨G.x, 0, none⟩), va, vb]) ∧ Both15 w lo G r n S m (min len 40) va vb w'

set_option maxRecDepth 100000 in
set_option maxHeartbeats 8000000 in
theorem build15_any (w : World) (rr nn dn : Nat) (hrr : rr < 256) (hnn : nn < 256) (hdn : dn < 65536) (a : Option Addr) (len cap : Nat) (S : Nat → St15) (hlc : len ≤ cap) (hcm : cap ≤ 9223372036854775807) (hs : Std15 w a len S) :
    Calls Try.prog 25 #[.int .u8 (rr : Nat), .int .u8 (nn : Nat), .slice a len cap, .int .u16 (dn : Nat)] w (Build15 w (1 + rr % 8) (1 + nn % 16) S len) := by
  have HS := hid hs
  clear hs
  obtain ⟨r, hr⟩ : ∃ r, r = 1 + rr % 8 := ⟨_, rfl⟩
  obtain ⟨n, hn⟩ : ∃ n, n = 1 + nn % 16 := ⟨_, rfl⟩
  obtain ⟨r7, hr7⟩ : ∃ q, q = rr % 8 := ⟨_, rfl⟩
  obtain ⟨n7, hn7⟩ : ∃ q, q = nn % 16 := ⟨_, rfl⟩
  have e1 : (rr : Int) % 8 = (r7 : Int) := by omega
  have e2 : (rr : Int).tmod 8 = (r7 : Int) := by rw [Int.tmod_eq_emod_of_nonneg (by omega)]; exact e1
  have e3 : 1 + (r7 : Int) = (r : Int) := by omega
  have f1 : (nn : Int) % 16 = (n7 : Int) := by omega
  have f2 : (nn : Int).tmod 16 = (n7 : Int) := by rw [Int.tmod_eq_emod_of_nonneg (by omega)]; exact f1
  have f3 : 1 + (n7 : Int) = (n : Int) := by omega
  have hr1 : 1 ≤ r := by omega
  have hr8 : r ≤ 8 := by omega
  have hn1 : 1 ≤ n := by omega
  have hn16 : n ≤ 16 := by omega
  have b1 : (r7 : Int) < 8 := by omega
  have b2 : (n7 : Int) < 16 := by omega
  have b3 : (rr : Int) < 256 := by omega
  have b4 : (nn : Int) < 256 := by omega
  rw [← hr, ← hn]
  clear hr hn hr7 hn7 hrr hnn hdn
  go_enter Try.func25, Try.ntmps25
  go_wp2_with fail
  refine (new_yes w r n hr1 hr8 hn1 hn16).mono ?_
  rintro e w1 ⟨rfl, hm1, hb1⟩
  have hl1 := hm1.lt
  have HM1 := hid hm1
  have HB1 := hid hb1
  clear hm1 hb1
  go_wp2_with fail
  refine (rnew_yes w1 r n hr1 hr8 hn1 hn16).mono ?_
  rintro e w2 ⟨G, rfl, hx2, hb2⟩
  obtain ⟨lo, hlo⟩ : ∃ lo, lo = w1.heap.size := ⟨_, rfl⟩
  have HX := hid (show Both15 w lo G r n S (mx0 r n) 0 (.slice none 0 0) (.slice none 0 0) w2 from ⟨⟨HM1.out.below hb2 hl1, by rw [hlo]; exact hx2, one0 r n, rfl, rfl, HB1.out.trans (hb2.mono (by omega)), by omega⟩, World.ownsRow_nil _ _ _ _, World.ownsRow_nil _ _ _ _⟩)
  have hn16i : (n : Int) ≤ 16 := by omega
  have hn1i : (1 : Int) ≤ (n : Int) := by omega
  have hr8i : (r : Int) ≤ 8 := by omega
  have hr1i : (1 : Int) ≤ (r : Int) := by omega
  clear hx2 hb2 hlo e1 e2 e3 f1 f2 f3 b1 b2 b3 b4 hn16 hn1 hr8 hr1
  go_wp2_with fail
  go_loopw [18, 19, 47] (fun va vb i wr => ∃ (k : Nat) (m : Mx), k ≤ len ∧ k ≤ 40 ∧ i = .int .i64 k ∧ Both15 w lo G r n S m k va vb wr) (fun _ _ i _ => len - (intOf i).toNat)
  case atStart => exact ⟨0, _, Nat.zero_le _, by decide, rfl, HX.out⟩
  case round =>
    obtain ⟨k, m, hk, hk40, rfl, hX⟩ := hrel
    obtain ⟨va, hva⟩ : ∃ v, v = hX.fst := ⟨_, rfl⟩
    obtain ⟨vb, hvb⟩ : ∃ v, v = hX.snd := ⟨_, rfl⟩
    unfold Both15.fst at hva
    unfold Both15.snd at hvb
    subst hva
    subst hvb
    have HX := hid hX
    have HK40 := hid hk40
    clear hX hk40
    by_cases hlt : k < len
    · have hki : (k : Int) < (len : Int) := by omega
      obtain ⟨sb, so, rfl, hsb, hrg, hd8, hn65, ht8⟩ := (HS.out.below (show Below w.heap.size w wr from HX.out.b.bel)) k hlt
      obtain ⟨d, hdd⟩ : ∃ d, d = (S k).d := ⟨_, rfl⟩
      obtain ⟨sn, hsn⟩ : ∃ d, d = (S k).n := ⟨_, rfl⟩
      obtain ⟨st, hst⟩ : ∃ d, d = (S k).t := ⟨_, rfl⟩
      obtain ⟨sq, hsq⟩ : ∃ d, d = (S k).q := ⟨_, rfl⟩
      rw [← hdd, ← hsn, ← hst, ← hsq] at hrg
      rw [← hdd] at hd8
      rw [← hst] at ht8
      have HSQ := hid hsq
      have HST := hid hst
      have ht8i : (st : Int) < 256 := by omega
      have HRG := hid hrg
      have hd8i : (d : Int) < 256 := by omega
      clear hrg hd8 hn65 hdd hsn hst hsq ht8
      by_cases h40 : k < 40
      · have h40i : (k : Int) < 40 := by omega
        clear h40
        go_upto_region 9 with (first
          | (refine wpList_load_mid rfl 74 (.tmp 50) rfl sb (so + k * 4) rfl _ _ HRG.out Try.underlying74 rfl (by rw [size_st15]; rfl) ?_)
          | (refine st15_fresh rfl (.tmp 21) (.tmp 51) rfl wr (s15cells d sn st sq) rfl rfl rfl (by simp [Value.oneCell']) ?_; intro wo hgo hbo; have HGO := hid hgo; have HBO := hid hbo; clear hgo hbo)
          | fail)
        obtain ⟨gs, hgs⟩ : ∃ g, g = wr.heap.size := ⟨_, rfl⟩
        rw [← hgs] at HGO
        rw [← hgs]
        have HGS := hid hgs
        have HXO := hid (HX.out.below HBO.out)
        have hso : gs < wo.heap.size := (Array.getElem?_eq_some_iff.1 HGO.out).1
        have hs0 := HBO.out.size
        have g0 : wo.cell? ⟨gs, 1, none⟩ = some (.int .u16 (sn : Nat)) := (cell_of_row _ _ _ _ _ _ HGO.out).trans rfl
        have HSR := hid (show w.heap.size < gs ∧ gs < wo.heap.size from ⟨by rw [hgs]; exact HX.out.b.at_.lt, hso⟩)
        have HGL := hid (show ∀ q, G.all m.r q → q < gs from fun q hq => by rw [hgs]; exact HX.out.b.rx.lt q hq)
        clear HX HRG hgs
        go_wp2_with fail
        go_loopw [22, 55] (fun v i wr => ∃ (q : Nat) (l : List Nat), q ≤ n ∧ i = .int .i64 q ∧ l.length ≤ q ∧ wr.ownsRow wo.heap.size 3 1 v l.length (l.map iv) ∧ Below wo.heap.size wo wr) (fun _ i _ => n - (intOf i).toNat)
        case atStart => exact ⟨0, [], Nat.zero_le _, rfl, Nat.le_refl _, World.ownsRow_nil _ _ _ _, Below.refl _ _⟩
        case round =>
          obtain ⟨q, l, hq, rfl, hlq, hv, hB⟩ := hrel
          have HV := hid hv
          have HB := hid hB
          have hs2 := hB.size
          obtain ⟨av, cv, rfl, hcv1, hcv2⟩ := owns_slice hv
          have g1 : wr.cell? ⟨gs, 1, none⟩ = some (.int .u16 (sn : Nat)) := (hB.cell (p := ⟨gs, 1, none⟩) hso).trans g0
          have g2 : wr.cell? ⟨gs, 0, none⟩ = some (.int .u8 (d : Nat)) := (hB.cell (p := ⟨gs, 0, none⟩) hso).trans ((cell_of_row _ _ _ _ _ _ HGO.out).trans rfl)
          clear hv hB
          by_cases hql : q < n
          · have hqi : (q : Int) < (n : Int) := by omega
            have hq16 : (q : Int) < 16 := by omega
            have hsrc := hid (SrcC.lit wr #[.int .i64 (q : Nat)] 3 1 [iv q] rfl)
            have hof := hid (owns_below HV.out ((Below.refl _ _).alloc (Nat.le_refl _) (.cells #[.int .i64 (q : Nat)] 3)))
            generalize hll : l.length = ll at *
            have HLL := hid hll
            clear hll
            go_wp2_with (at_builtin; (refine appsw (by rfl) 34 3 (.tmp 64) (.tmp 66) rfl wo.heap.size 1 8 _ Try.underlying34 Try.infoInt rfl (by decide) _ _ ll 1 (ll + 1) _ _ rfl rfl hof.out hsrc.out rfl (by intro y hy; rw [List.mem_singleton] at hy; subst hy; rfl) rfl (by omega) (by omega) (by simp; omega) ?_); intro ad9 cp9 wA hoA hgA; have HOA := hid hoA; have HGA := hid hgA; clear hoA hgA)
            · have hbA : Below wo.heap.size wo wA := (HB.out.alloc (by omega) (.cells #[.int .i64 (q : Nat)] 3)).grown HGA.out (by simp; omega) (fun g hg => (World.ownsRow.lt HV.out g hg).1)
              have HBA := hid hbA
              clear hbA
              go_roundw
              case rel => exact ⟨q + 1, l ++ [q], by omega, by go_num, by rw [List.length_append, HLL.out]; simp; omega, by rw [List.length_append, HLL.out, List.map_append]; exact HOA.out, HBA.out⟩
              case measure => simp [intOf]; omega
            · go_roundw
              case rel => exact ⟨q + 1, l, by omega, by go_num, by rw [HLL.out]; omega, by rw [HLL.out]; exact HV.out, HB.out⟩
              case measure => simp [intOf]; omega
          · have hqi : ¬ (q : Int) < (n : Int) := by omega
            have HX := hid (HXO.out.below HB.out)
            have HRD := hid (show RdV wr (.slice av l.length cv) ((l.map Int.ofNat).map iw) by rw [iv_map]; exact RdV.of_own HV.out)
            have HAV := hid (show ∀ g o, av = some ⟨g, o, none⟩ → wo.heap.size ≤ g ∧ g < wr.heap.size from fun g o e => by
              subst e
              rcases owns_shape HV.out with ⟨h1, _⟩ | ⟨g', c', h1, h2, h3, _⟩
              · cases h1
              · simp only [Value.slice.injEq, Option.some.injEq, Addr.mk.injEq] at h1
                omega)
            obtain ⟨z, hz⟩ : ∃ z, z = d % r := ⟨_, rfl⟩
            have z1 : (d : Int) % (r : Int) = (z : Int) := by rw [hz]; exact (Int.natCast_emod d r).symm
            have z2 : (d : Int).tmod (r : Int) = (z : Int) := by rw [Int.tmod_eq_emod_of_nonneg (by omega)]; exact z1
            have z3 : (z : Int) < (r : Int) := by have := Nat.mod_lt d (show 0 < r by omega); omega
            have z4 : IntKind.u32.wrap ((k : Int) + 1) = ((k + 1 : Nat) : Int) := by rw [IntKind.wrap_u32]; omega
            have z5 : ((r : Int) == 0) = false := by rw [beq_eq_false_iff_ne]; omega
            have z6 : (1 : Int) ≤ (r : Int) := by omega
            have z7 : (r : Int) ≤ 8 := by omega
            have HP := hid (put_all wr w.heap.size (k + 1) (z : Nat) _ (l.map Int.ofNat) m HX.out.b.at_ HRD.out (by
              rintro g o n' c' e
              simp only [Value.slice.injEq] at e
              have := HAV.out g o e.1
              have := HSR.out
              omega) (by omega))
            clear hz hql
            go_wp2_with fail
            refine HP.out.mono ?_
            rintro e w5 ⟨rfl, hm5, hk5⟩
            have hs5 := hk5.size
            have HM5 := hid hm5
            have HK5 := hid hk5
            have HR5 := hid (HX.out.b.rx.keeps hk5 (fun k hk e => by have := HX.out.b.rx.low k hk; have := HX.out.b.lo1; omega))
            have h2' : w5.cell? ⟨gs, 0, none⟩ = some (.int .u8 (d : Nat)) := (hk5.cell (p := ⟨gs, 0, none⟩) (show gs < wr.heap.size by have := HSR.out; omega) (show ¬ gs = w.heap.size by have := HSR.out; omega)).trans g2
            have HRD5 := hid (HRD.out.blk hk5 (fun g o e => by have := HAV.out g o e; have := HSR.out; omega))
            have HP5 := hid (rput_all w5 lo G (k + 1) (z : Nat) _ (l.map Int.ofNat) m HR5.out HRD5.out (by
              rintro g o n' c' e ⟨i, hi, rfl⟩
              simp only [Value.slice.injEq] at e
              have h1 := HAV.out _ o e.1
              have h2 := HXO.out.b.rx.lt (G.g i) (.inr (.inr (.inr ⟨i, hi, rfl⟩)))
              omega) (by omega))
            clear hm5 hk5 g1 g2
            go_wp2_with fail
            refine HP5.out.mono ?_
            rintro e w6 ⟨rfl, hr6, hk6⟩
            have HN := hid (HX.out.kept HK5.out hk6 (fun q hq => .inr (.inr (.inr hq))) (HX.out.b.put HM5.out HK5.out hr6 hk6))
            have hbx6 : w6.heap[gs]? = some (.cells (s15cells d sn st sq) 74 (0, 0)) := by
              have h1 := (HB.out.block gs (by have := HSR.out; omega)).trans HGO.out
              have h2 := (HK5.out.block gs (by have := HSR.out; have := HB.out.size; omega) (by have := HSR.out; omega)).trans h1
              exact (hk6.block gs (by have := HSR.out; have := HB.out.size; have := HK5.out.size; omega) (fun hq => by have := HGL.out gs (.inr (.inr (.inr hq))); omega)).trans h2
            have HBX6 := hid hbx6
            have q2 : w6.cell? ⟨gs, 2, none⟩ = some (.int .u8 (st : Nat)) := (cell_of_row _ _ _ _ _ _ hbx6).trans rfl
            have q3 : w6.cell? ⟨gs, 3, none⟩ = some (.bool sq) := (cell_of_row _ _ _ _ _ _ hbx6).trans rfl
            clear hr6 hk6 hbx6 h2'
            cases sq with
            | true =>
              go_wp2_with fail
              go_roundw
              case rel => exact ⟨k + 1, _, by omega, by omega, by go_num, HN.out.skip HSQ.out.symm⟩
              case measure => simp [intOf]; omega
            | false =>
              obtain ⟨cl, hcl⟩ : ∃ c, c = (cands S k).length := ⟨_, rfl⟩
              have hcl9 : cl ≤ 40 := by rw [hcl]; have := cands_len S k; omega
              have HCL := hid hcl
              have hla := HN.out.la
              have hlb := HN.out.lb
              have hlo6 := HN.out.b.rx.lt _ (.inl rfl)
              have hlo7 := HN.out.b.rx.low _ (.inl rfl)
              rw [← hcl] at hla hlb
              have hsrc := hid (SrcC.lit w6 #[.int .u32 ((k + 1 : Nat) : Int), .int .u8 (st : Nat)] 80 1 [.int .u32 ((k + 1 : Nat) : Int), .int .u8 (st : Nat)] rfl)
              have hof := hid (owns_below hla ((Below.refl _ _).alloc (Nat.le_refl _) (.cells #[.int .u32 ((k + 1 : Nat) : Int), .int .u8 (st : Nat)] 80)))
              have HLB := hid hlb
              have hszA : (w6.alloc (.cells #[.int .u32 ((k + 1 : Nat) : Int), .int .u8 (st : Nat)] 80)).heap.size = w6.heap.size + 1 := by simp
              have HZA := hid hszA
              have hlo8 := hid (show lo ≤ w6.heap.size by omega)
              clear hla hlb hcl hszA hlo6 hlo7
              go_upto_region 21 with (first
                | (at_builtin; (refine appsw (by rfl) 56 80 (.tmp 94) (.tmp 101) rfl lo 2 8 _ Try.underlying56 infoCand rfl (by decide) _ _ cl 1 (cl + 1) _ _ rfl rfl hof.out hsrc.out rfl (by intro y hy; simp only [List.mem_cons, List.not_mem_nil, or_false] at hy; rcases hy with rfl | rfl <;> rfl) rfl (by omega) (by omega) (by have := hlo8.out; simp; omega) ?_); intro ad9 cp9 wA hoA hgA; have HOA := hid hoA; have HKA := hid ((KT.of_below ((Below.refl _ _).alloc (Nat.le_refl _) _) hlo8.out).trans (own_grown15 hof.out hgA (by have := hlo8.out; simp; omega))); clear hoA hgA)
                | fail)
              have hbxA := HKA.out.block HBX6.out (by decide)
              have q4 : wA.cell? ⟨gs, 2, none⟩ = some (.int .u8 (st : Nat)) := (cell_of_row _ _ _ _ _ _ hbxA).trans rfl
              have hlb2 := owns_kt HLB.out HKA.out (by decide)
              have hsrc2 := hid (SrcC.lit wA #[.int .u32 ((k + 1 : Nat) : Int), .int .u8 (st : Nat)] 104 1 [.int .u32 ((k + 1 : Nat) : Int), .int .u8 (st : Nat)] rfl)
              have hof2 := hid (owns_below hlb2 ((Below.refl _ _).alloc (Nat.le_refl _) (.cells #[.int .u32 ((k + 1 : Nat) : Int), .int .u8 (st : Nat)] 104)))
              have hszB : (wA.alloc (.cells #[.int .u32 ((k + 1 : Nat) : Int), .int .u8 (st : Nat)] 104)).heap.size = wA.heap.size + 1 := by simp
              have HZB := hid hszB
              have hlo9 := hid (show lo ≤ wA.heap.size from Nat.le_trans hlo8.out HKA.out.size)
              clear hbxA hlb2 hszB q2 q3
              go_wp2_with (first
                | (at_builtin; (refine appsw (by rfl) 57 104 (.tmp 103) (.tmp 110) rfl lo 2 8 _ Try.underlying57 infoRCand rfl (by decide) _ _ cl 1 (cl + 1) _ _ rfl rfl hof2.out hsrc2.out rfl (by intro y hy; simp only [List.mem_cons, List.not_mem_nil, or_false] at hy; rcases hy with rfl | rfl <;> rfl) rfl (by omega) (by omega) (by have := hlo9.out; simp; omega) ?_); intro ad8 cp8 wB hoB hgB; have HOB := hid hoB; have HKB := hid ((KT.of_below ((Below.refl _ _).alloc (Nat.le_refl _) _) hlo9.out).trans (own_grown15 hof2.out hgB (by have := hlo9.out; simp; omega))); clear hoB hgB)
                | fail)
              go_roundw
              case rel => exact ⟨k + 1, _, by omega, by omega, by go_num, HN.out.add HSQ.out.symm HKA.out (by rw [← HST.out, ← HCL.out]; exact HOA.out) HKB.out (by rw [← HST.out, ← HCL.out]; exact HOB.out)⟩
              case measure => simp [intOf]; omega
      · have h40i : ¬ (k : Int) < 40 := by omega
        have h40j : (40 : Int) ≤ (k : Int) := by omega
        have HKE := hid (show min len 40 = k by have := HK40.out; omega)
        clear h40
        go_upto_region 9 with (first
          | (refine wpList_load_mid rfl 74 (.tmp 50) rfl sb (so + k * 4) rfl _ _ HRG.out Try.underlying74 rfl (by rw [size_st15]; rfl) ?_)
          | (refine st15_fresh rfl (.tmp 21) (.tmp 51) rfl wr (s15cells d sn st sq) rfl rfl rfl (by simp [Value.oneCell']) ?_; intro wo hgo hbo; have HGO := hid hgo; have HBO := hid hbo; clear hgo hbo)
          | fail)
        have HX2 := hid (HX.out.below HBO.out)
        clear HX HRG
        have HX := hid HX2.out
        clear HX2
        go_wp2_with fail
        go_loopw [114] (fun i wr => ∃ (q : Nat) (m : Mx), q ≤ n ∧ i = .int .i64 q ∧ Both15 w lo G r n S m k va vb wr) (fun i _ => n - (intOf i).toNat)
        case atStart => exact ⟨0, _, Nat.zero_le _, rfl, HX.out⟩
        case round =>
          obtain ⟨q, m, hq, rfl, hX⟩ := hrel
          have HX := hid hX
          clear hX
          by_cases hql : q < n
          · have hqi : (q : Int) < (n : Int) := by omega
            have hq16 : (q : Int) < 16 := by omega
            have hqm : q < m.n := by have := HX.out.b.mn; omega
            have HUP := hid (up_yes wr w.heap.size m q false HX.out.b.at_ hqm)
            go_wp2_with fail
            · refine HUP.out.mono ?_
              rintro e w7 ⟨rfl, hm7, hk7⟩
              have hr7 := HX.out.b.rx.keeps hk7 (fun k hk e => by have := HX.out.b.rx.low k hk; have := HX.out.b.lo1; omega)
              have hs7 := hk7.size
              have HM7 := hid hm7
              have HK7 := hid hk7
              have HR7 := hid hr7
              have c1 := hr7.c1
              rw [HX.out.b.mn] at c1
              have hfz := hr7.upf q
              have hcu := hr7.up q hqm
              have hcum := hr7.cum
              have hcuc := hr7.cur
              rw [HX.out.b.mn] at hcuc
              have HT := hid (hr7.turn q false hqm)
              have HK8 := hid (kset12 w7 G.bu q (.bool false))
              clear hm7 hk7 hr7
              go_wp2_with fail
              go_roundw
              case rel => exact ⟨q + 1, m.turn q (!false), by omega, by go_num, HX.out.kept HK7.out HK8.out (fun q hq => .inr (.inr (.inl hq))) (HX.out.b.turned HM7.out HK7.out HT.out HK8.out)⟩
              case measure => simp [intOf]; omega
            · go_roundw
              case rel => exact ⟨q + 1, m, by omega, by go_num, HX.out⟩
              case measure => simp [intOf]; omega
          · have hqi : ¬ (q : Int) < (n : Int) := by omega
            clear hql
            go_wp2
            (try simp only [Exit.inBlock, Exit.then]); refine bodyPost_ret (results_tmp4 rfl _ _ _) rfl ?_
            exact ⟨_, _, _, _, _, rfl, by rw [HKE.out]; exact HX.out⟩
    · have hki : ¬ (k : Int) < (len : Int) := by omega
      have HKE := hid (show min len 40 = k by have := HK40.out; omega)
      clear hlt
      go_wp2_with fail
      go_loopw [114] (fun i wr => ∃ (q : Nat) (m : Mx), q ≤ n ∧ i = .int .i64 q ∧ Both15 w lo G r n S m k va vb wr) (fun i _ => n - (intOf i).toNat)
      case atStart => exact ⟨0, _, Nat.zero_le _, rfl, HX.out⟩
      case round =>
        obtain ⟨q, m, hq, rfl, hX⟩ := hrel
        have HX := hid hX
        clear hX
        by_cases hql : q < n
        · have hqi : (q : Int) < (n : Int) := by omega
          have hq16 : (q : Int) < 16 := by omega
          have hqm : q < m.n := by have := HX.out.b.mn; omega
          have HUP := hid (up_yes wr w.heap.size m q false HX.out.b.at_ hqm)
          go_wp2_with fail
          · refine HUP.out.mono ?_
            rintro e w7 ⟨rfl, hm7, hk7⟩
            have hr7 := HX.out.b.rx.keeps hk7 (fun k hk e => by have := HX.out.b.rx.low k hk; have := HX.out.b.lo1; omega)
            have hs7 := hk7.size
            have HM7 := hid hm7
            have HK7 := hid hk7
            have HR7 := hid hr7
            have c1 := hr7.c1
            rw [HX.out.b.mn] at c1
            have hfz := hr7.upf q
            have hcu := hr7.up q hqm
            have hcum := hr7.cum
            have hcuc := hr7.cur
            rw [HX.out.b.mn] at hcuc
            have HT := hid (hr7.turn q false hqm)
            have HK8 := hid (kset12 w7 G.bu q (.bool false))
            clear hm7 hk7 hr7
            go_wp2_with fail
            go_roundw
            case rel => exact ⟨q + 1, m.turn q (!false), by omega, by go_num, HX.out.kept HK7.out HK8.out (fun q hq => .inr (.inr (.inl hq))) (HX.out.b.turned HM7.out HK7.out HT.out HK8.out)⟩
            case measure => simp [intOf]; omega
          · go_roundw
            case rel => exact ⟨q + 1, m, by omega, by go_num, HX.out⟩
            case measure => simp [intOf]; omega
        · have hqi : ¬ (q : Int) < (n : Int) := by omega
          clear hql
          go_wp2
          (try simp only [Exit.inBlock, Exit.then]); refine bodyPost_ret (results_tmp4 rfl _ _ _) rfl ?_
          exact ⟨_, _, _, _, _, rfl, by rw [HKE.out]; exact HX.out⟩

end Go.Proofs.Ytdongghjchnpbaa

namespace Go.Proofs.Ytdongghjchnpbaa
open Go.RowKit Go.Shelf
set_option linter.unusedVariables false
set_option linter.unusedSimpArgs false

theorem sortC_of {q : List Cd} (h : q.Pairwise CBef) : sortC q = q := by
  have hn : q.Nodup := by
    refine List.Pairwise.imp ?_ h
    intro a b hab e
    subst e
    exact cbef_irr _ hab
  exact List.Perm.eq_of_pairwise (le := CBef) (fun a b _ _ h1 h2 => absurd h2 (cbef_asym h1)) (sortC_sorted hn) h (sortC_perm q)

def sv0 : Mx := mx0 1 3
def sv1 : Mx := sv0.stand 0 [0, 1] 1
def sv2 : Mx := sv1.stand 0 [2] 2
def lv0 : List Cd := [(1, 0), (2, 1)]

theorem sv_1 : sv0.where 1 = none ∧ sv0.fit 0 [0, 1] = true ∧ OkL sv0.n [0, 1] := ⟨by decide, by decide, by unfold OkL; decide⟩
theorem sv_2 : sv1.where 2 = none ∧ sv1.fit 0 [2] = true ∧ OkL sv1.n [2] := ⟨by decide, by decide, by unfold OkL; decide⟩
theorem sv_f : (sv2.free 0).length = 0 := by decide +kernel
theorem sv_l2 : sv2.lows 0 lv0 2 = [(1, 0), (2, 1)] := by decide +kernel
theorem sv_l0 : sv2.lows 0 lv0 0 = [] := by decide +kernel
theorem sv_c1 : sv2.cnt 1 = 2 := by decide +kernel
theorem sv_c2 : sv2.cnt 2 = 1 := by decide +kernel
theorem sv_w2 : sv2.who 0 lv0 2 = [(1, 0), (2, 1)] := by unfold Mx.who; rw [sv_l2]; exact sortC_of (by simp [CBef])
theorem sv_w0 : sv2.who 0 lv0 0 = [] := by unfold Mx.who; rw [sv_l0]; exact sortC_of List.Pairwise.nil
theorem sv_b1 : best15 (fun r => sv2.leave r lv0 2 1) 1 = some (0, [(1, 0)]) := by
  refine step15_first ?_ rfl
  show sv2.leave 0 lv0 2 1 = some [(1, 0)]
  unfold Mx.leave
  rw [if_neg (by decide), sv_f, sv_w2]
  simp [Mx.lv, sv_c1, sv_c2]
theorem sv_b3 : best15 (fun r => sv2.leave r lv0 2 3) 1 = some (0, [(1, 0), (2, 1)]) := by
  refine step15_first ?_ rfl
  show sv2.leave 0 lv0 2 3 = some [(1, 0), (2, 1)]
  unfold Mx.leave
  rw [if_neg (by decide), sv_f, sv_w2]
  simp [Mx.lv, sv_c1, sv_c2]
theorem sv_b0 : best15 (fun r => sv2.leave r lv0 0 1) 1 = none := by
  refine (step15_none ?_).trans rfl
  show sv2.leave 0 lv0 0 1 = none
  unfold Mx.leave
  rw [if_neg (by decide), sv_f, sv_w0]
  simp [Mx.lv]

theorem RdC.lit (w : World) (t : TypeId) : RdC (w.alloc (.cells #[.int .u32 1, .int .u8 0, .int .u32 2, .int .u8 1] t)) (.slice (some ⟨w.heap.size, 0, none⟩) 2 2) lv0 := by
  have hg := heap_alloc_new w (.cells #[.int .u32 1, .int .u8 0, .int .u32 2, .int .u8 1] t)
  have hs : w.heap.size < (w.alloc (.cells #[.int .u32 1, .int .u8 0, .int .u32 2, .int .u8 1] t)).heap.size := by simp
  refine ⟨_, 2, rfl, Nat.le_refl _, by omega, fun k x hx => ?_⟩
  match k, hx with
  | 0, hx =>
    cases hx
    exact ⟨by decide, by decide, _, 0, rfl, hs, (cell_of_row _ _ _ _ _ _ hg).trans rfl, (cell_of_row _ _ _ _ _ _ hg).trans rfl⟩
  | 1, hx =>
    cases hx
    exact ⟨by decide, by decide, _, 0, rfl, hs, (cell_of_row _ _ _ _ _ _ hg).trans rfl, (cell_of_row _ _ _ _ _ _ hg).trans rfl⟩
  | k + 2, hx => cases hx

theorem lv0_b : ∀ x ∈ lv0, x.1 < 4294967296 ∧ x.2 < 256 := by decide

set_option maxRecDepth 100000 in
set_option maxHeartbeats 16000000 in
theorem awake15_any (w : World) : Calls Try.prog 24 #[] w fun e w' => e = .returned (.bool true) ∧ Below w.heap.size w w' := by
  go_enter Try.func24, Try.ntmps24
  go_wp2_with fail
  refine (new_yes w 1 3 (by omega) (by omega) (by omega) (by omega)).mono ?_
  rintro e w1 ⟨rfl, h1, b1⟩
  have H1 := hid (show MxAt w1 w.heap.size sv0 from h1)
  have B1 := hid b1
  have s1 := h1.lt
  clear h1 b1
  have L1 := hid (show RdV (w1.alloc (.cells #[.int .i64 0, .int .i64 1] 3)) (.slice (some ⟨w1.heap.size, 0, none⟩) 2 2) ([0, 1].map iv) from RdV.lit w1 _ _ _ _ rfl rfl (by simp))
  have C1 := hid ((Below.refl _ w1).alloc (Nat.le_refl _) (.cells #[.int .i64 0, .int .i64 1] 3))
  have t1 : w1.heap.size ≤ (w1.alloc (.cells #[.int .i64 0, .int .i64 1] 3)).heap.size := by simp
  go_wp2_with fail
  refine (put_yes (w1.alloc (.cells #[.int .i64 0, .int .i64 1] 3)) w.heap.size 1 0 _ [0, 1] sv0 (H1.out.below C1.out s1) L1.out (by rintro g o n c e; simp only [Value.slice.injEq, Option.some.injEq, Addr.mk.injEq] at e; omega) (by omega) (by omega) (by decide) sv_1.2.2 sv_1.1 sv_1.2.1).mono ?_
  rintro e w2 ⟨rfl, h2, k2⟩
  have H2 := hid (show MxAt w2 w.heap.size sv1 from h2)
  have K2 := hid k2
  have s2 := k2.size
  clear h2 k2
  have L2 := hid (show RdV (w2.alloc (.cells #[.int .i64 2] 3)) (.slice (some ⟨w2.heap.size, 0, none⟩) 1 1) ([2].map iv) from RdV.lit w2 _ _ _ _ rfl rfl (by simp))
  have C2 := hid ((Below.refl _ w2).alloc (Nat.le_refl _) (.cells #[.int .i64 2] 3))
  have t2 : w2.heap.size ≤ (w2.alloc (.cells #[.int .i64 2] 3)).heap.size := by simp
  go_wp2_with fail
  refine (put_yes (w2.alloc (.cells #[.int .i64 2] 3)) w.heap.size 2 0 _ [2] sv1 (H2.out.below C2.out (by omega)) L2.out (by rintro g o n c e; simp only [Value.slice.injEq, Option.some.injEq, Addr.mk.injEq] at e; omega) (by omega) (by omega) (by decide) sv_2.2.2 sv_2.1 sv_2.2.1).mono ?_
  rintro e w3 ⟨rfl, h3, k3⟩
  have s3 := k3.size
  have hbw3 : Below w.heap.size w w3 := B1.out.trans ((C1.out.mono (by omega)).trans ((K2.out.below (by omega) (fun i hi => by omega)).trans ((C2.out.mono (by omega)).trans (k3.below (by omega) (fun i hi => by omega)))))
  have HB3 := hid hbw3
  have H3 := hid (show MxAt w3 w.heap.size sv2 from h3)
  clear h3 k3 hbw3 H1 B1 L1 C1 H2 K2 L2 C2 t1 t2
  obtain ⟨y, hy⟩ : ∃ y, y = w3.alloc (.cells #[.int .u32 1, .int .u8 0, .int .u32 2, .int .u8 1] 80) := ⟨_, rfl⟩
  have HR := hid (show RdC y (.slice (some ⟨w3.heap.size, 0, none⟩) 2 2) lv0 by rw [hy]; exact RdC.lit w3 _)
  have hby : Below w3.heap.size w3 y := by rw [hy]; exact (Below.refl _ _).alloc (Nat.le_refl _) _
  have HY := hid (HB3.out.trans (hby.mono HB3.out.size))
  have HM := hid (H3.out.below hby H3.out.lt)
  obtain ⟨pa, hpa⟩ : ∃ p, p = w3.heap.size := ⟨_, rfl⟩
  rw [← hpa] at HR
  have HML := hid (show w.heap.size < y.heap.size from HM.out.lt)
  clear hby
  go_upto_region 5 with (fail)
  rw [← hy, ← hpa]
  clear hy hpa s1 s2 s3
  have HC5 := hid (choose15_any y w.heap.size sv2 _ lv0 2 1 (HM.out.below (Below.refl _ _) HML.out) (HR.out.below (Below.refl _ _)) (by decide) (by decide) lv0_b)
  rw [show sv2.r = 1 from rfl, sv_b1] at HC5
  go_upto_region 6 with (first
    | (go_at_call 26; (refine HC5.out.mono ?_); rintro e w5 ⟨hb5, u5, rfl, ho5⟩; obtain ⟨a5, c5, rfl, -, -⟩ := owns_slice ho5; have HB5 := hid hb5; have HO5 := hid ho5; clear hb5 ho5)
    | fail)
  have HO5 := hid (show w5.ownsRow y.heap.size 33 1 (.slice a5 1 c5) 1 ([1].map uv) from HO5.out)
  obtain ⟨y5, hy5⟩ : ∃ z, z = w5.alloc (.cells #[.int .i64 0, .slice a5 1 c5] 62) := ⟨_, rfl⟩
  have hq5 : Below w5.heap.size w5 y5 := by rw [hy5]; exact (Below.refl _ _).alloc (Nat.le_refl _) _
  have hg5 : y5.heap[w5.heap.size]? = some (.cells #[.int .i64 0, .slice a5 1 c5] 62 (0, 0)) := by rw [hy5]; exact heap_alloc_new w5 _
  obtain ⟨p5, hp5⟩ : ∃ p, p = w5.heap.size := ⟨_, rfl⟩
  rw [← hp5] at hg5
  have HG5 := hid hg5
  have HQ5 := hid (show Below y.heap.size y y5 from HB5.out.trans (hq5.mono HB5.out.size))
  have HO5 := hid (owns_below HO5.out hq5)
  have HS5 := hid (show w5.heap.size ≤ y5.heap.size from hq5.size)
  have HT5 := hid (show Below y.heap.size y y5 from HB5.out.trans (hq5.mono HB5.out.size))
  rw [← hy5, ← hp5]
  clear hy5 hq5 hg5 hp5
  have HC6 := hid (choose15_any y5 w.heap.size sv2 _ lv0 2 3 (HM.out.below HQ5.out HML.out) (HR.out.below HQ5.out) (by decide) (by decide) lv0_b)
  rw [show sv2.r = 1 from rfl, sv_b3] at HC6
  go_upto_region 7 with (first
    | (go_at_call 26; (refine HC6.out.mono ?_); rintro e w6 ⟨hb6, u6, rfl, ho6⟩; obtain ⟨a6, c6, rfl, -, -⟩ := owns_slice ho6; have HB6 := hid hb6; have HO6 := hid ho6; clear hb6 ho6)
    | fail)
  have HO6 := hid (show w6.ownsRow y5.heap.size 33 1 (.slice a6 2 c6) 2 ([1, 2].map uv) from HO6.out)
  obtain ⟨y6, hy6⟩ : ∃ z, z = w6.alloc (.cells #[.int .i64 0, .slice a6 2 c6] 62) := ⟨_, rfl⟩
  have hq6 : Below w6.heap.size w6 y6 := by rw [hy6]; exact (Below.refl _ _).alloc (Nat.le_refl _) _
  have hg6 : y6.heap[w6.heap.size]? = some (.cells #[.int .i64 0, .slice a6 2 c6] 62 (0, 0)) := by rw [hy6]; exact heap_alloc_new w6 _
  obtain ⟨p6, hp6⟩ : ∃ p, p = w6.heap.size := ⟨_, rfl⟩
  rw [← hp6] at hg6
  have HG6 := hid hg6
  have HQ6 := hid (show Below y.heap.size y y6 from (HQ5.out.trans (HB6.out.mono HQ5.out.size)).trans (hq6.mono (HQ5.out.trans (HB6.out.mono HQ5.out.size)).size))
  have HO6 := hid (owns_below HO6.out hq6)
  have HS6 := hid (show w6.heap.size ≤ y6.heap.size from hq6.size)
  have HT6 := hid (show Below y5.heap.size y5 y6 from HB6.out.trans (hq6.mono HB6.out.size))
  rw [← hy6, ← hp6]
  clear hy6 hq6 hg6 hp6
  have HC7 := hid (choose15_any y6 w.heap.size sv2 _ lv0 0 1 (HM.out.below HQ6.out HML.out) (HR.out.below HQ6.out) (by decide) (by decide) lv0_b)
  rw [show sv2.r = 1 from rfl, sv_b0] at HC7
  go_upto_region 8 with (first
    | (go_at_call 26; (refine HC7.out.mono ?_); rintro e w7 ⟨hb7, rfl⟩; have HB7 := hid hb7; clear hb7)
    | fail)
  obtain ⟨y7, hy7⟩ : ∃ z, z = w7.alloc (.cells #[.int .i64 0, .slice none 0 0] 62) := ⟨_, rfl⟩
  have hq7 : Below w7.heap.size w7 y7 := by rw [hy7]; exact (Below.refl _ _).alloc (Nat.le_refl _) _
  have hg7 : y7.heap[w7.heap.size]? = some (.cells #[.int .i64 0, .slice none 0 0] 62 (0, 0)) := by rw [hy7]; exact heap_alloc_new w7 _
  obtain ⟨p7, hp7⟩ : ∃ p, p = w7.heap.size := ⟨_, rfl⟩
  rw [← hp7] at hg7
  have HG7 := hid hg7
  have HQ7 := hid (show Below y.heap.size y y7 from (HQ6.out.trans (HB7.out.mono HQ6.out.size)).trans (hq7.mono (HQ6.out.trans (HB7.out.mono HQ6.out.size)).size))
  have HS7 := hid (show w7.heap.size ≤ y7.heap.size from hq7.size)
  have HT7 := hid (show Below y6.heap.size y6 y7 from HB7.out.trans (hq7.mono HB7.out.size))
  rw [← hy7, ← hp7]
  clear hy7 hq7 hg7 hp7
  have x5 : y7.cell? ⟨p5, 1, none⟩ = some (.slice a5 1 c5) := (cell_of_row _ _ _ _ _ _ ((HT7.out.block p5 (Nat.lt_of_lt_of_le (Array.getElem?_eq_some_iff.1 HG5.out).1 HT6.out.size)).trans ((HT6.out.block p5 (Array.getElem?_eq_some_iff.1 HG5.out).1).trans HG5.out))).trans rfl
  have x6 : y7.cell? ⟨p6, 1, none⟩ = some (.slice a6 2 c6) := (cell_of_row _ _ _ _ _ _ ((HT7.out.block p6 (Array.getElem?_eq_some_iff.1 HG6.out).1).trans HG6.out)).trans rfl
  have R5 := hid (show RdV y7 (.slice a5 1 c5) ([1].map uv) from RdV.of_own (owns_below (owns_below HO5.out HT6.out) HT7.out))
  have R6 := hid (show RdV y7 (.slice a6 2 c6) ([1, 2].map uv) from RdV.of_own (owns_below HO6.out HT7.out))
  have C8 := hid ((Below.refl _ y7).alloc (Nat.le_refl _) (.cells #[.int .u32 1] 33))
  have L8 := hid (show RdV (y7.alloc (.cells #[.int .u32 1] 33)) (.slice (some ⟨y7.heap.size, 0, none⟩) 1 1) ([1].map uv) from RdV.lit y7 _ _ _ _ rfl rfl (by simp))
  have S8 := hid (same_any _ _ _ _ _ (R5.out.all C8.out) L8.out)
  clear HC5 HC6 HC7
  go_wp2_with (first
    | (go_at_call 30; (with_reducible refine S8.out.mono ?_); rintro e w8 ⟨rfl, hb8⟩; have HB8 := hid (C8.out.trans (hb8.mono C8.out.size)); have L9 := hid (show RdV (w8.alloc (.cells #[.int .u32 1, .int .u32 2] 33)) (.slice (some ⟨w8.heap.size, 0, none⟩) 2 2) ([1, 2].map uv) from RdV.lit w8 _ _ _ _ rfl rfl (by simp)); have C9 := hid ((Below.refl _ w8).alloc (Nat.le_refl _) (.cells #[.int .u32 1, .int .u32 2] 33)); have S9 := hid (same_any _ _ _ _ _ ((R6.out.all HB8.out).all C9.out) L9.out); have y5c := (HB8.out.cell (p := ⟨p6, 1, none⟩) (World.block_lt_of_cell? _ _ x6)).trans x6; clear hb8)
    | (go_at_call 30; (with_reducible refine S9.out.mono ?_); rintro e w9 ⟨rfl, hb9⟩; have HB9 := hid (C9.out.trans (hb9.mono C9.out.size)); clear hb9)
    | fail)
  go_ret
  exact ⟨rfl, HY.out.trans ((HQ7.out.trans ((HB8.out.trans (HB9.out.mono HB8.out.size)).mono HQ7.out.size)).mono HY.out.size)⟩

end Go.Proofs.Ytdongghjchnpbaa

namespace Go.Proofs.Ytdongghjchnpbaa
open Go.RowKit
set_option linter.unusedVariables false
set_option linter.unusedSimpArgs false

theorem leave_room {m : Mx} {row : Nat} {l : List Cd} {tier K : Nat} (hK : 1 ≤ K) (h : K ≤ (m.free row).length) : m.leave row l tier K = some [] := by
  unfold Mx.leave
  rw [if_neg (by omega)]
  have h1 := Mx.lv_of (m := m) (k := (K : Int)) (who := m.who row l tier) (room := (m.free row).length) (n := 0) (Nat.zero_le _) (by simp [Mx.sumC]; omega) (fun i hi => absurd hi (Nat.not_lt_zero _))
  simpa using h1

theorem leave_some {m : Mx} {row : Nat} {l : List Cd} {tier K : Nat} {q : List Cd} (h : m.leave row l tier K = some q) : ∃ n, n ≤ (m.who row l tier).length ∧ q = (m.who row l tier).take n ∧ K ≤ (m.free row).length + m.sumC q ∧ ∀ i, i < n → (m.free row).length + m.sumC (q.take i) < K := by
  unfold Mx.leave at h
  split at h
  · cases h
  · obtain ⟨n, h1, h2, h3, h4⟩ := Mx.lv_some h
    refine ⟨n, h1, h2, by rw [h2]; omega, fun i hi => ?_⟩
    have := h4 i hi
    rw [h2, List.take_take, Nat.min_eq_left (by omega)]
    omega

theorem leave_nil_room {m : Mx} {row : Nat} {l : List Cd} {tier K : Nat} (h : m.leave row l tier K = some []) : K ≤ (m.free row).length := by
  obtain ⟨n, _, _, h3, _⟩ := leave_some h
  simpa [Mx.sumC] using h3

def roomTo (m : Mx) (K k : Nat) : Bool := (List.range k).any fun i => decide (K ≤ (m.free i).length)
theorem roomTo_succ (m : Mx) (K k : Nat) : roomTo m K (k + 1) = (roomTo m K k || decide (K ≤ (m.free k).length)) := by
  unfold roomTo; rw [List.range_succ, List.any_append]; simp
theorem roomTo_true {m : Mx} {K k : Nat} (h : roomTo m K k = true) : ∃ i, i < k ∧ K ≤ (m.free i).length := by
  unfold roomTo at h
  rw [List.any_eq_true] at h
  obtain ⟨i, h1, h2⟩ := h
  exact ⟨i, List.mem_range.1 h1, by simpa using h2⟩

def someTo (f : Nat → Option (List Cd)) (k : Nat) : Bool := (List.range k).any fun i => (f i).isSome
theorem someTo_succ (f : Nat → Option (List Cd)) (k : Nat) : someTo f (k + 1) = (someTo f k || (f k).isSome) := by
  unfold someTo; rw [List.range_succ, List.any_append]; simp
theorem someTo_best (f : Nat → Option (List Cd)) (k : Nat) : someTo f k = (best15 f k).isSome := by
  cases h : best15 f k with
  | none =>
    have := best15_none h
    unfold someTo
    rw [Option.isSome_none, List.any_eq_false]
    intro i hi
    rw [this i (List.mem_range.1 hi)]; simp
  | some p =>
    obtain ⟨b, q⟩ := p
    obtain ⟨h1, h2, _⟩ := best15_some h
    unfold someTo
    rw [Option.isSome_some, List.any_eq_true]
    exact ⟨b, List.mem_range.2 h1, by rw [h2]; rfl⟩

theorem best15_eq {f : Nat → Option (List Cd)} {r i b : Nat} {q p : List Cd} (hi : i < r) (hq : f i = some q) (hb : best15 f r = some (b, p)) : p.length ≤ q.length := (best15_some hb).2.2 i hi q hq

/-! The order in which they are told. -/
theorem find_rev {l : List Cd} (h : (l.map Prod.fst).Nodup) (j : Nat) : firstC l.reverse j = firstC l j := by
  unfold firstC
  cases e : l.find? (fun c => c.1 == j) with
  | none =>
    rw [List.find?_eq_none] at e ⊢
    exact fun x hx => e x (List.mem_reverse.1 hx)
  | some c =>
    have h1 := List.mem_of_find?_eq_some e
    have h2 := List.find?_some e
    cases e2 : l.reverse.find? (fun c => c.1 == j) with
    | none =>
      rw [List.find?_eq_none] at e2
      exact absurd h2 (e2 c (List.mem_reverse.2 h1))
    | some d =>
      have h3 := List.mem_reverse.1 (List.mem_of_find?_eq_some e2)
      have h4 := List.find?_some e2
      have h5 : d.1 = c.1 := by simp only [beq_iff_eq] at h2 h4; omega
      obtain ⟨i, hi, rfl⟩ := List.mem_iff_getElem.1 h1
      obtain ⟨k, hk, rfl⟩ := List.mem_iff_getElem.1 h3
      have : k = i := by
        refine (List.getElem_inj (h₀ := by simpa using hk) (h₁ := by simpa using hi) h).1 ?_
        simpa using h5
      subst this
      rfl
theorem leave_rev {m : Mx} {l : List Cd} (h : (l.map Prod.fst).Nodup) (row tier : Nat) (k : Int) : m.leave row l.reverse tier k = m.leave row l tier k := by
  have h1 : lowC l.reverse tier = lowC l tier := by
    funext j
    unfold lowC
    rw [find_rev h]
  unfold Mx.leave Mx.who Mx.lows
  rw [h1]

theorem cands_nodup (S : Nat → St15) (k : Nat) : ((cands S k).map Prod.fst).Nodup := by
  induction k with
  | zero => simp [cands]
  | succ k ih =>
    rw [cands_succ, List.map_append]
    refine List.nodup_append.2 ⟨ih, by split <;> simp, fun x hx y hy => ?_⟩
    obtain ⟨c, hc, rfl⟩ := List.mem_map.1 hx
    obtain ⟨i, hi, _, rfl⟩ := cands_mem.1 hc
    split at hy
    · simp at hy
    · simp at hy; subst hy
      simp only; omega

/-! Who goes. -/
theorem who_mem {m : Mx} {row : Nat} {l : List Cd} {tier : Nat} {x : Cd} (h : x ∈ m.who row l tier) : x ∈ l ∧ x.1 ∈ m.row row ∧ x.2 < tier := by
  have h1 : x ∈ m.lows row l tier := (sortC_perm _).mem_iff.1 h
  unfold Mx.lows at h1
  obtain ⟨j, h2, h3⟩ := List.mem_filterMap.1 h1
  have := lowC_some h3
  exact ⟨this.1, by rw [this.2.1]; exact h2, this.2.2⟩

theorem low_sub (l : List Cd) (tier : Nat) : ∀ J : List Nat, ((J.filterMap (lowC l tier)).map Prod.fst).Sublist J
  | [] => List.Sublist.slnil
  | j :: J => by
    cases e : lowC l tier j with
    | none => rw [List.filterMap_cons_none e]; exact (low_sub l tier J).cons _
    | some c =>
      rw [List.filterMap_cons_some e, List.map_cons, (lowC_some e).2.1]
      exact (low_sub l tier J).cons_cons _

theorem who_nodup (m : Mx) (row : Nat) (l : List Cd) (tier : Nat) : ((m.who row l tier).map Prod.fst).Nodup := by
  have h1 : ((m.lows row l tier).map Prod.fst).Nodup := List.Nodup.sublist (low_sub l tier _) (m.row_nodup row)
  exact ((sortC_perm (m.lows row l tier)).map Prod.fst).symm.nodup h1

theorem or_len {α : Type} (a b : α → Bool) : ∀ l : List α, (∀ x ∈ l, a x = true → b x = false) → (l.filter fun x => a x || b x).length = (l.filter a).length + (l.filter b).length
  | [], _ => rfl
  | x :: l, h => by
    have ih := or_len a b l fun y hy => h y (List.mem_cons_of_mem _ hy)
    have hx := h x List.mem_cons_self
    rw [List.filter_cons, List.filter_cons, List.filter_cons]
    cases ha : a x <;> cases hb : b x <;> simp [ha, hb, ih] at hx ⊢ <;> omega

theorem free_gone {m : Mx} {row j : Nat} (hn : m.n ≤ 16) (hj : j ≠ 0) : ((m.stand row (m.own row j) 0).free row).length = (m.free row).length + m.upN row j := by
  have e1 : (m.stand row (m.own row j) 0).free row = (List.range m.n).filter fun k => (m.c (16 * row + k) == 0 && !m.d k) || (m.c (16 * row + k) == j && !m.d k) := by
    unfold Mx.free Mx.at
    rw [Mx.stand_n, Mx.stand_d]
    apply List.filter_congr
    intro k hk
    rw [List.mem_range] at hk
    rw [Mx.stand_cell _ _ _ _ _ _ (own_lt hn) (by omega)]
    by_cases h : m.c (16 * row + k) = j
    · rw [if_pos ⟨rfl, own_mem.2 ⟨hk, h⟩⟩]
      have : ¬ m.c (16 * row + k) = 0 := by rw [h]; exact hj
      simp [h, hj]
    · rw [if_neg (fun hh => h (own_mem.1 hh.2).2)]
      simp [h]
  rw [e1, or_len]
  · congr 1
    unfold Mx.upN Mx.own Mx.at
    rw [List.filter_filter]
    congr 1
    apply List.filter_congr
    intro k _
    rw [Bool.and_comm]
  · intro k _ h1
    simp only [Bool.and_eq_true, beq_iff_eq] at h1
    have : ¬ m.c (16 * row + k) = j := by rw [h1.1]; exact fun e => hj e.symm
    simp [this]

/-- Some of a row's jobs are gone. -/
structure Rid (m m' : Mx) (row : Nat) (q : List Cd) : Prop where
  mr : m'.r = m.r
  mn : m'.n = m.n
  md : m'.d = m.d
  one : One m'
  own : ∀ i j, j ≠ 0 → j ∉ q.map Prod.fst → m'.own i j = m.own i j
  fr : (m'.free row).length = (m.free row).length + m.sumC q

theorem Rid.nil {m : Mx} (ho : One m) (row : Nat) : Rid m m row [] := ⟨rfl, rfl, rfl, ho, fun _ _ _ _ => rfl, by simp [Mx.sumC]⟩

theorem Rid.where_ {m m' : Mx} {row j : Nat} {q : List Cd} (h : Rid m m' row q) (ho : One m) (hj : j ∈ m.row row) (hr : row < m.r) (hq : j ∉ q.map Prod.fst) : m'.where j = some row := by
  have h1 := row_own.1 hj
  exact (where_iff h.one).2 ⟨h1.1, by rw [h.mr]; exact hr, by rw [h.own row j h1.1 hq]; exact h1.2⟩

theorem Rid.step {m m' : Mx} {row : Nat} {q : List Cd} {c : Cd} (h : Rid m m' row q) (ho : One m) (hn : m.n ≤ 16) (hj : c.1 ∈ m.row row) (hr : row < m.r) (hq : c.1 ∉ q.map Prod.fst) : Rid m (m'.stand row (m'.own row c.1) 0) row (q ++ [c]) := by
  have h1 := row_own.1 hj
  have hn' : m'.n ≤ 16 := by rw [h.mn]; exact hn
  refine ⟨(Mx.stand_r _ _ _ _).trans h.mr, (Mx.stand_n _ _ _ _).trans h.mn, (Mx.stand_d _ _ _ _).trans h.md, ?_, ?_, ?_⟩
  · intro j r1 r2 hj0 hr1 hr2 h3 h4
    rw [Mx.stand_r] at hr1 hr2
    have key : ∀ i, (m'.stand row (m'.own row c.1) 0).own i j ≠ [] → m'.own i j ≠ [] := by
      intro i hi
      by_cases e : j = c.1 ∧ i = row
      · rw [e.1, e.2, own_gone_self hn' h1.1] at hi; exact absurd rfl hi
      · rw [own_gone hn' hj0 (by by_cases e1 : j = c.1 <;> by_cases e2 : i = row <;> simp_all)] at hi; exact hi
    exact h.one j r1 r2 hj0 hr1 hr2 (key r1 h3) (key r2 h4)
  · intro i j hj0 hjq
    simp only [List.map_append, List.map_cons, List.map_nil, List.mem_append, List.mem_singleton, not_or] at hjq
    rw [own_gone hn' hj0 (.inl hjq.2), h.own i j hj0 hjq.1]
  · rw [free_gone hn' h1.1, h.fr, Mx.sumC_snoc]
    have hc : m.cnt c.1 = m.upN row c.1 := by unfold Mx.cnt; rw [(One.row_where ho hr hj).1]
    have hd : m'.upN row c.1 = m.upN row c.1 := by
      unfold Mx.upN
      rw [h.own row c.1 h1.1 hq, h.md]
    rw [hc, hd]; omega

end Go.Proofs.Ytdongghjchnpbaa

namespace Go.Proofs.Ytdongghjchnpbaa
open Go.RowKit Go.Shelf
set_option linter.unusedVariables false
set_option linter.unusedSimpArgs false

/-- The tier that is told of a job; 0 of none. -/
def tierC (l : List Cd) (z : Nat) : Nat := match firstC l z with | some c => c.2 | none => 0
theorem tierC_some {l : List Cd} {z : Nat} {c : Cd} (h : firstC l z = some c) : tierC l z = c.2 := by unfold tierC; rw [h]
theorem tierC_none {l : List Cd} {z : Nat} (h : firstC l z = none) : tierC l z = 0 := by unfold tierC; rw [h]

set_option maxRecDepth 100000 in
set_option maxHeartbeats 4000000 in
theorem tierof_any (w : World) (v : Value) (l : List Cd) (z : Nat) (h : RdC w v l) (hl : l.length ≤ 1000) :
    Calls Try.prog 57 #[v, .int .u32 (z : Nat)] w fun e w' => e = .returned (.tuple #[.int .u8 (tierC l z : Nat), .bool (firstC l z).isSome]) ∧ Below w.heap.size w w' := by
  obtain ⟨a, c, rfl, hc1, hc2⟩ := h.len
  have H := hid h
  clear h
  obtain ⟨n, hn⟩ : ∃ n, n = l.length := ⟨_, rfl⟩
  rw [← hn] at hc1 H hl ⊢
  have HN := hid hn
  clear hn
  go_enter Try.func57, Try.ntmps57
  go_wp2_with fail
  go_loopw [10] (fun i wr => ∃ k : Nat, i = .int .i64 k ∧ k ≤ n ∧ (∀ (j : Nat) (y : Cd), j < k → l[j]? = some y → y.1 ≠ z) ∧ Below w.heap.size w wr) (fun i _ => n - (intOf i).toNat)
  case atStart => exact ⟨0, rfl, Nat.zero_le _, fun j y hj => absurd hj (Nat.not_lt_zero _), Below.refl _ _⟩
  case round =>
    obtain ⟨k, rfl, hk, hall, hb⟩ := hrel
    have HA := hid hall
    have HB := hid hb
    have hsz := hb.size
    by_cases hkn : k < n
    · obtain ⟨x, hx⟩ : ∃ x, l[k]? = some x := ⟨_, List.getElem?_eq_getElem (by have := HN.out; omega)⟩
      obtain ⟨b1, b2, g, off, rfl, hg, z0, z1⟩ := (H.out.below hb).at hx
      have HX := hid hx
      have hki : (k : Int) < (n : Int) := by omega
      obtain ⟨y1, hy1⟩ : ∃ y, y = wr.alloc (.cells #[.int .u32 (x.1 : Nat), .int .u8 (x.2 : Nat)] 104) := ⟨_, rfl⟩
      have hby : Below wr.heap.size wr y1 := by rw [hy1]; exact (Below.refl _ _).alloc (Nat.le_refl _) _
      have hbx : y1.heap[wr.heap.size]? = some (.cells #[.int .u32 (x.1 : Nat), .int .u8 (x.2 : Nat)] 104 (0, 0)) := by rw [hy1]; exact heap_alloc_new wr _
      obtain ⟨pb, hpb⟩ : ∃ p, p = wr.heap.size := ⟨_, rfl⟩
      rw [← hpb] at hbx
      have o0 : y1.cell? ⟨pb, 0, none⟩ = some (.int .u32 (x.1 : Nat)) := (cell_of_row _ _ _ _ _ _ hbx).trans rfl
      have o1 : y1.cell? ⟨pb, 1, none⟩ = some (.int .u8 (x.2 : Nat)) := (cell_of_row _ _ _ _ _ _ hbx).trans rfl
      have HBY := hid (hb.trans (hby.mono hsz))
      clear hb hx hby hbx hall
      go_upto_region 4 with (fail)
      rw [← hy1, ← hpb]
      clear hy1 hpb z0 z1
      by_cases he : x.1 = z
      · have HP := hid (firstC_of HX.out he HA.out)
        have hei : ((x.1 : Int) == (z : Int)) = true := by rw [he]; simp
        rw [he] at o0
        clear he hei
        go_wp2_with fail
        go_ret2
        exact ⟨by rw [tierC_some HP.out, HP.out]; rfl, HBY.out⟩
      · have hei : ((x.1 : Int) == (z : Int)) = false := by rw [beq_eq_false_iff_ne]; omega
        have hei2 : decide ((x.1 : Int) = (z : Int)) = false := by simp; omega
        have HA1 := hid (show ∀ (j : Nat) (y : Cd), j < k + 1 → l[j]? = some y → y.1 ≠ z from fun j y hj hy => by
          by_cases e : j = k
          · subst e
            rw [HX.out] at hy
            simp only [Option.some.injEq] at hy
            subst hy
            exact he
          · exact HA.out j y (by omega) hy)
        have hei3 : (x.1 == z) = false := by simp; exact he
        clear he
        go_wp2_with fail
        go_roundw
        case rel => exact ⟨k + 1, by go_num, by omega, HA1.out, HBY.out⟩
        case measure => simp [intOf]; omega
    · have hki : ¬ (k : Int) < (n : Int) := by omega
      have HP := hid (firstC_none (l := l) (z := z) (fun j y hj => HA.out j y (by have := (List.getElem?_eq_some_iff.1 hj).1; have := HN.out; omega) hj))
      clear hb hall
      go_wp2_with fail
      go_ret2
      exact ⟨by rw [tierC_none HP.out, HP.out]; rfl, HB.out⟩

/-- The greatest tier that is told of jobs; -1 of nobody. -/
def topC (l : List Cd) (J : List Nat) : Int := J.foldl (fun n j => if n < (tierC l j : Int) then (tierC l j : Int) else n) (-1)
theorem topC_snoc (l : List Cd) (J : List Nat) (j : Nat) : topC l (J ++ [j]) = if topC l J < (tierC l j : Int) then (tierC l j : Int) else topC l J := by
  unfold topC; rw [List.foldl_append]; rfl
theorem tierC_lt {l : List Cd} (h : ∀ x ∈ l, x.1 < 4294967296 ∧ x.2 < 256) (z : Nat) : tierC l z < 256 := by
  unfold tierC
  cases e : firstC l z with
  | none => decide
  | some c => exact (h c (List.mem_of_find?_eq_some (by unfold firstC at e; exact e))).2

set_option maxRecDepth 100000 in
set_option maxHeartbeats 4000000 in
theorem topof_any (w : World) (v vj : Value) (l : List Cd) (J : List Nat) (h : RdC w v l) (hl : l.length ≤ 1000) (hb : ∀ x ∈ l, x.1 < 4294967296 ∧ x.2 < 256) (hj : RdV w vj (J.map uv)) :
    Calls Try.prog 56 #[.agg #[v], vj] w fun e w' => e = .returned (.int .i64 (topC l J)) ∧ Below w.heap.size w w' := by
  obtain ⟨a, c, rfl, hc1, hc2⟩ := h.len
  obtain ⟨aj, cj, rfl, hj1, hj2⟩ := hj.len
  rw [List.length_map] at hj1 hj ⊢
  obtain ⟨n, hn⟩ : ∃ n, n = J.length := ⟨_, rfl⟩
  rw [← hn] at hj1 hj ⊢
  have HN := hid hn
  have HJ := hid hj
  have H := hid h
  have HTL := hid (fun z => tierC_lt hb z)
  obtain ⟨ln, hln⟩ : ∃ n, n = l.length := ⟨_, rfl⟩
  rw [← hln] at hc1 H hl ⊢
  have HLN := hid hln
  obtain ⟨y1, hy1⟩ : ∃ y, y = w.alloc (.cells #[.slice a ln c] 110) := ⟨_, rfl⟩
  have hby : Below w.heap.size w y1 := by rw [hy1]; exact (Below.refl _ _).alloc (Nat.le_refl _) _
  have hbx : y1.heap[w.heap.size]? = some (.cells #[.slice a ln c] 110 (0, 0)) := by rw [hy1]; exact heap_alloc_new w _
  obtain ⟨pb, hpb⟩ : ∃ p, p = w.heap.size := ⟨_, rfl⟩
  rw [← hpb] at hbx
  have hpl : pb < y1.heap.size := (Array.getElem?_eq_some_iff.1 hbx).1
  have HBX := hid hbx
  have HBY := hid hby
  clear h hj hn hln hby hbx hb
  go_enter Try.func56, Try.ntmps56
  go_upto_region 1 with (fail)
  rw [← hy1, ← hpb]
  clear hy1 hpb
  go_wp2_with fail
  go_loopw [5, 12] (fun u i wr => ∃ k : Nat, i = .int .i64 k ∧ k ≤ n ∧ u = .int .i64 (topC l (J.take k)) ∧ Below y1.heap.size y1 wr) (fun _ i _ => n - (intOf i).toNat)
  case atStart => exact ⟨0, rfl, Nat.zero_le _, rfl, Below.refl _ _⟩
  case round =>
    obtain ⟨k, rfl, hk, rfl, hb⟩ := hrel
    have HB := hid hb
    have hsz := hb.size
    by_cases hkn : k < n
    · obtain ⟨j, hjj⟩ : ∃ j, J[k]? = some j := ⟨_, List.getElem?_eq_getElem (by have := HN.out; omega)⟩
      have HW := hid (HBY.out.trans (hb.mono HBY.out.size))
      obtain ⟨-, g, off, rfl, hg, hcell⟩ := RdV.at1 (HJ.out.all HW.out) k (uv j) (by rw [List.getElem?_map, hjj]; rfl)
      have hc0 : wr.cell? ⟨g, off + k, none⟩ = some (.int .u32 (j : Nat)) := hcell
      have o0 : wr.cell? ⟨pb, 0, none⟩ = some (.slice a ln c) := (hb.cell (p := ⟨pb, 0, none⟩) hpl).trans ((cell_of_row _ _ _ _ _ _ HBX.out).trans rfl)
      have HT := hid (tierof_any wr _ l j (H.out.below HW.out) (by have := HLN.out; omega))
      have HX := hid (take_snoc' _ _ _ hjj)
      have HTS := hid (topC_snoc l (J.take k) j)
      have htl := HTL.out j
      have hki : (k : Int) < (n : Int) := by omega
      generalize tierC l j = t at *
      generalize topC l (J.take k) = T at *
      have hti : (t : Int) < 256 := by omega
      clear hb hjj hcell
      by_cases hlt : T < (t : Int)
      · have HE := hid (show topC l (J.take (k + 1)) = (t : Int) by rw [HX.out, HTS.out, if_pos hlt])
        go_wp2_with (first
          | (go_at_call 57; (with_reducible refine HT.out.mono ?_); rintro e w3 ⟨rfl, hb3⟩; have HB3 := hid (HB.out.trans (hb3.mono HB.out.size)); clear hb3)
          | fail)
        go_roundw
        case rel => exact ⟨k + 1, by go_num, by omega, by rw [HE.out], HB3.out⟩
        case measure => simp [intOf]; omega
      · have HE := hid (show topC l (J.take (k + 1)) = T by rw [HX.out, HTS.out, if_neg hlt])
        go_wp2_with (first
          | (go_at_call 57; (with_reducible refine HT.out.mono ?_); rintro e w3 ⟨rfl, hb3⟩; have HB3 := hid (HB.out.trans (hb3.mono HB.out.size)); clear hb3)
          | fail)
        go_roundw
        case rel => exact ⟨k + 1, by go_num, by omega, by rw [HE.out], HB3.out⟩
        case measure => simp [intOf]; omega
    · have hki : ¬ (k : Int) < (n : Int) := by omega
      have HE := hid (show J.take k = J by rw [show k = n by omega, HN.out, List.take_length])
      clear hb
      go_wp2_with fail
      go_ret
      exact ⟨by rw [HE.out]; rfl, HBY.out.trans (HB.out.mono HBY.out.size)⟩

end Go.Proofs.Ytdongghjchnpbaa

namespace Go.Proofs.Ytdongghjchnpbaa
open Go.RowKit Go.Shelf
set_option linter.unusedVariables false
set_option linter.unusedSimpArgs false

/-- The best of the first so many: its place, or -1. -/
def BestAt (l : List Cd) (tier : Nat) (left : List Nat) (i : Nat) (z : Int) : Prop :=
  (z = -1 ∧ ∀ (j : Nat) (y : Nat), j < i → left[j]? = some y → lowC l tier y = none) ∨
  ∃ (b : Nat) (c : Cd) (y : Nat), z = (b : Nat) ∧ b < i ∧ left[b]? = some y ∧ lowC l tier y = some c ∧ ∀ (j : Nat) (x : Nat) (d : Cd), j < i → left[j]? = some x → lowC l tier x = some d → ¬ CBef d c

theorem BestAt.start (l : List Cd) (tier : Nat) (left : List Nat) : BestAt l tier left 0 (-1) := .inl ⟨rfl, fun j y hj => absurd hj (Nat.not_lt_zero _)⟩

theorem BestAt.skip {l : List Cd} {tier : Nat} {left : List Nat} {i : Nat} {z : Int} {y : Nat} (h : BestAt l tier left i z) (hy : left[i]? = some y) (hn : lowC l tier y = none) : BestAt l tier left (i + 1) z := by
  rcases h with ⟨hz, h1⟩ | ⟨b, c, yb, hz, hb, h1, h2, h3⟩
  · refine .inl ⟨hz, fun j x hj hx => ?_⟩
    by_cases e : j = i
    · subst e; rw [hy] at hx; cases hx; exact hn
    · exact h1 j x (by omega) hx
  · refine .inr ⟨b, c, yb, hz, by omega, h1, h2, fun j x d hj hx hd => ?_⟩
    by_cases e : j = i
    · subst e; rw [hy] at hx; cases hx; rw [hn] at hd; cases hd
    · exact h3 j x d (by omega) hx hd

theorem BestAt.first {l : List Cd} {tier : Nat} {left : List Nat} {i : Nat} {y : Nat} {d : Cd} (h : ∀ (j : Nat) (y : Nat), j < i → left[j]? = some y → lowC l tier y = none) (hy : left[i]? = some y) (hd : lowC l tier y = some d) : BestAt l tier left (i + 1) (i : Nat) := by
  refine .inr ⟨i, d, y, rfl, by omega, hy, hd, fun j x e hj hx he => ?_⟩
  by_cases e2 : j = i
  · subst e2; rw [hy] at hx; cases hx; rw [hd] at he; cases he; exact cbef_irr _
  · rw [h j x (by omega) hx] at he; cases he

theorem BestAt.stay {l : List Cd} {tier : Nat} {left : List Nat} {i b yb y : Nat} {c d : Cd} (hb : b < i) (h1 : left[b]? = some yb) (h2 : lowC l tier yb = some c) (h3 : ∀ (j : Nat) (x : Nat) (d : Cd), j < i → left[j]? = some x → lowC l tier x = some d → ¬ CBef d c) (hy : left[i]? = some y) (hd : lowC l tier y = some d) (hc : CBef c d) : BestAt l tier left (i + 1) (b : Nat) := by
  refine .inr ⟨b, c, yb, rfl, by omega, h1, h2, fun j x e hj hx he => ?_⟩
  by_cases e2 : j = i
  · subst e2; rw [hy] at hx; cases hx; rw [hd] at he; cases he; exact cbef_asym hc
  · exact h3 j x e (by omega) hx he

theorem BestAt.new {l : List Cd} {tier : Nat} {left : List Nat} {i y : Nat} {c d : Cd} (h3 : ∀ (j : Nat) (x : Nat) (d : Cd), j < i → left[j]? = some x → lowC l tier x = some d → ¬ CBef d c) (hy : left[i]? = some y) (hd : lowC l tier y = some d) (hc : ¬ CBef c d) : BestAt l tier left (i + 1) (i : Nat) := by
  refine .inr ⟨i, d, y, rfl, by omega, hy, hd, fun j x e hj hx he => ?_⟩
  by_cases e2 : j = i
  · subst e2; rw [hy] at hx; cases hx; rw [hd] at he; cases he; exact cbef_irr _
  · exact cbef_ntrans (h3 j x e (by omega) hx he) hc

theorem best_none {l : List Cd} {tier : Nat} {left : List Nat} {R : List Cd} (h : ∀ (j : Nat) (y : Nat), j < left.length → left[j]? = some y → lowC l tier y = none) (hp : (left.filterMap (lowC l tier)).Perm R) : R = [] := by
  have h1 : left.filterMap (lowC l tier) = [] := by
    rw [List.filterMap_eq_nil_iff]
    intro y hy
    obtain ⟨j, hj⟩ := List.mem_iff_getElem?.1 hy
    exact h j y (List.getElem?_eq_some_iff.1 hj).1 hj
  rw [h1] at hp
  exact hp.symm.eq_nil

theorem best_some {l : List Cd} {tier : Nat} {left : List Nat} {b y : Nat} {c : Cd} {R : List Cd} (hy : left[b]? = some y) (hc : lowC l tier y = some c) (h3 : ∀ (j : Nat) (x : Nat) (d : Cd), j < left.length → left[j]? = some x → lowC l tier x = some d → ¬ CBef d c) (hp : (left.filterMap (lowC l tier)).Perm R) (hs : R.Pairwise CBef) : ∃ R', R = c :: R' ∧ ((left.take b ++ left.drop (b + 1)).filterMap (lowC l tier)).Perm R' := by
  have hbl := (List.getElem?_eq_some_iff.1 hy).1
  have hleft : left.Perm (y :: (left.take b ++ left.drop (b + 1))) := by
    conv => lhs; rw [← List.take_append_drop b left, List.drop_eq_getElem_cons hbl]
    rw [show left[b] = y from (List.getElem?_eq_some_iff.1 hy).2]
    exact List.perm_middle
  have h1 : (c :: (left.take b ++ left.drop (b + 1)).filterMap (lowC l tier)).Perm R := by
    have h2 := (hleft.filterMap (lowC l tier)).symm.trans hp
    rwa [List.filterMap_cons_some hc] at h2
  cases R with
  | nil => exact absurd h1.length_eq (by simp)
  | cons c0 R' =>
    have hmem : c0 ∈ left.filterMap (lowC l tier) := hp.mem_iff.2 List.mem_cons_self
    obtain ⟨x, hx, hx2⟩ := List.mem_filterMap.1 hmem
    obtain ⟨j, hj⟩ := List.mem_iff_getElem?.1 hx
    have h4 := h3 j x c0 (List.getElem?_eq_some_iff.1 hj).1 hj hx2
    have hcR : c ∈ c0 :: R' := h1.mem_iff.1 List.mem_cons_self
    have e : c = c0 := by
      rcases List.mem_cons.1 hcR with h | h
      · exact h
      · exact absurd ((List.pairwise_cons.1 hs).1 c h) h4
    subst e
    exact ⟨R', rfl, h1.cons_inv⟩

theorem low_one {l : List Cd} {tier y : Nat} {c : Cd} (h : lowC l tier y = some c) : firstC l y = some c ∧ tierC l y = c.2 ∧ c.1 = y ∧ c.2 < tier := by
  have h1 := lowC_some h
  have h2 : firstC l y = some c := by
    unfold lowC at h
    cases e : firstC l y with
    | none => rw [e] at h; cases h
    | some d => rw [e] at h; simp only at h; split at h <;> simp_all
  exact ⟨h2, tierC_some h2, h1.2.1, h1.2.2⟩

theorem SrcC.of_rdv {w : World} {g off n c : Nat} {l : List Nat} (h : RdV w (.slice (some ⟨g, off, none⟩) n c) (l.map uv)) (k m : Nat) (a : Addr) (cc : Nat) (ys : List Value) (hy : ys = ((l.map uv).drop k).take m) (ha : a = ⟨g, off + k, none⟩ ∨ ys = []) : SrcC w (.slice (some a) m cc) m ys := by
  refine .inr ⟨a, cc, rfl, fun j y hj => ?_⟩
  rcases ha with rfl | rfl
  · rw [Addr.add_lit]
    rw [hy] at hj
    have hjm : j < m := by
      have := (List.getElem?_eq_some_iff.1 hj).1
      rw [List.length_take] at this
      omega
    rw [List.getElem?_take_of_lt hjm, List.getElem?_drop] at hj
    obtain ⟨-, b', o', e, -, hc⟩ := RdV.at1 h (k + j) y hj
    simp only [Option.some.injEq, Addr.mk.injEq] at e
    obtain ⟨rfl, rfl, -⟩ := e
    rw [Nat.add_assoc]
    exact hc
  · cases hj

/-- What the document's Of tells. -/
def RLeaveIs (w : World) (o : Option (List Cd)) (e : Ending) (w' : World) : Prop :=
  Below w.heap.size w w' ∧ match o with
  | none => e = .returned (.tuple #[.slice none 0 0, .bool false])
  | some q => ∃ v, e = .returned (.tuple #[v, .bool true]) ∧ w'.ownsRow w.heap.size 33 1 v q.length (q.map fun c => uv c.1)

theorem rof15_low (w : World) (lo : Nat) (G : Geo) (m : Mx) (h : RxAt w lo G m) (row : Int) (v : Value) (tier : Nat) (k : Int) (hk : k < 1) :
    Calls Try.prog 29 #[.pointer (some ⟨G.x, 0, none⟩), .int .i64 row, v, .int .u8 (tier : Nat), .int .i64 k] w fun e w' => e = .returned (.tuple #[.slice none 0 0, .bool false]) ∧ w = w' := by
  have hc0 := h.c0
  clear h
  by_cases h0 : row < 0
  · go_enter Try.func29, Try.ntmps29
    go_wp2_with fail
    go_ret2
    exact ⟨rfl, rfl⟩
  · by_cases h1 : (m.r : Int) ≤ row
    · have h2 : row ≥ (m.r : Int) := h1
      go_enter Try.func29, Try.ntmps29
      go_wp2_with fail
      go_ret2
      exact ⟨rfl, rfl⟩
    · have h2 : ¬ row ≥ (m.r : Int) := h1
      go_enter Try.func29, Try.ntmps29
      go_wp2_with fail
      go_ret2
      exact ⟨rfl, rfl⟩

theorem rof15_out (w : World) (lo : Nat) (G : Geo) (m : Mx) (h : RxAt w lo G m) (row : Int) (hr : row < 0 ∨ (m.r : Int) ≤ row) (v : Value) (tier : Nat) (k : Int) :
    Calls Try.prog 29 #[.pointer (some ⟨G.x, 0, none⟩), .int .i64 row, v, .int .u8 (tier : Nat), .int .i64 k] w fun e w' => e = .returned (.tuple #[.slice none 0 0, .bool false]) ∧ w = w' := by
  have hc0 := h.c0
  clear h
  by_cases h0 : row < 0
  · clear hr
    go_enter Try.func29, Try.ntmps29
    go_wp2_with fail
    go_ret2
    exact ⟨rfl, rfl⟩
  · have h1 : (m.r : Int) ≤ row := by omega
    have h2 : row ≥ (m.r : Int) := h1
    clear hr
    go_enter Try.func29, Try.ntmps29
    go_wp2_with fail
    go_ret2
    exact ⟨rfl, rfl⟩

set_option maxRecDepth 100000 in
set_option maxHeartbeats 16000000 in
theorem rof15_any (w : World) (lo : Nat) (G : Geo) (m : Mx) (row : Nat) (vl : Value) (l : List Cd) (tier : Nat) (k : Int) (h : RxAt w lo G m) (ho : One m) (hrow : row < m.r) (hk1 : 1 ≤ k) (hl : RdC w vl l) (hll : l.length ≤ 1000) (ht : tier < 256) (hlb : ∀ x ∈ l, x.1 < 4294967296 ∧ x.2 < 256) (hwn : (m.who row l tier).Pairwise CBef) :
    Calls Try.prog 29 #[.pointer (some ⟨G.x, 0, none⟩), .int .i64 row, vl, .int .u8 (tier : Nat), .int .i64 k] w (RLeaveIs w (m.leave row l tier k)) := by
  have HE : m.leave row l tier k = m.lv k (m.free row).length (m.who row l tier) := by unfold Mx.leave; rw [if_neg (by omega)]
  rw [HE]
  clear HE
  have hc0 := h.c0
  have hr8 := h.r8
  have hn16 := h.n16
  have hccr := h.ccr
  have hccm := h.ccm
  have hii : (row : Int) < (m.r : Int) := by omega
  have hi0 : ¬ (row : Int) < 0 := by omega
  have hi1 : ¬ (row : Int) ≥ (m.r : Int) := by omega
  have hi2 : ¬ (m.r : Int) ≤ (row : Int) := by omega
  have hk2 : ¬ k < 1 := by omega
  obtain ⟨al, cl, rfl, hcl1, hcl2⟩ := hl.len
  obtain ⟨ln, hln⟩ : ∃ n, n = l.length := ⟨_, rfl⟩
  rw [← hln] at hcl1 hl hll ⊢
  have HLN := hid hln
  have HLL := hid hll
  have HX := hid h
  have HRL := hid hl
  have HLT := hid (fun z => tierC_lt hlb z)
  have HFR := hid (rfree_any w lo G m row h hrow)
  have HRO := hid (fun W (hW : Below w.heap.size w W) => rrow_any W lo G m row (h.below hW (Nat.le_refl _)) ho hrow)
  have hfl : (m.free row).length ≤ 16 := Nat.le_trans (m.at_len _) hn16
  have hwl : (m.who row l tier).length ≤ 16 := Nat.le_trans (m.who_len _ _ _) hn16
  have HJL := hid (show (m.row row).length ≤ 16 from Nat.le_trans (jobs_len _ _) (Nat.le_trans (m.at_len _) hn16))
  have HWN := hid hwn
  have HPE := hid (show ((m.row row).filterMap (lowC l tier)).Perm (m.who row l tier) from (sortC_perm _).symm)
  have HSU := hid (fun q => sumC_le m hn16 q)
  have HCN := hid (fun j => cnt_le m j hn16)
  generalize hF : (m.free row).length = F at *
  generalize hW : m.who row l tier = W at *
  clear h ho hl hll hlb hwn hF hW hln
  go_enter Try.func29, Try.ntmps29
  go_wp2_with fail
  refine HFR.out.mono ?_
  rintro e w1 ⟨vf, rfl, hvf, hb1⟩
  have HB1 := hid hb1
  obtain ⟨af, cf, rfl, -, -⟩ := owns_slice hvf
  have HRO1 := hid (HRO.out w1 hb1)
  clear hb1 hvf
  go_wp2_with fail
  refine HRO1.out.mono ?_
  rintro e w2 ⟨vr, rfl, hvr, hb2⟩
  have HB2 := hid (HB1.out.trans (hb2.mono HB1.out.size))
  have HV2 := hid (RdV.of_own hvr)
  clear hb2 hvr
  obtain ⟨n, hn⟩ : ∃ n, n = W.length := ⟨_, rfl⟩
  rw [← hn] at hwl
  have HN := hid hn
  clear hn
  go_wp2_with fail
  go_loopw [12, 13, 14] (fun hv lv ov wr => ∃ (i : Nat) (left : List Nat), i ≤ n ∧ hv = .int .i64 ((F + m.sumC (W.take i) : Nat) : Int) ∧ (∀ i', i' < i → ((F + m.sumC (W.take i') : Nat) : Int) < k) ∧ RdV wr lv (left.map uv) ∧ left.length ≤ 16 ∧ (left.filterMap (lowC l tier)).Perm (W.drop i) ∧ wr.ownsRow w.heap.size 33 1 ov i ((W.take i).map fun c => uv c.1) ∧ Below w.heap.size w wr ∧ (∀ q, ov.ownBlock = some q → Off lv q)) (fun hv _ ov _ => n - (match ov with | .slice _ q _ => q | _ => 0))
  case atStart => exact ⟨0, m.row row, Nat.zero_le _, by simp [Mx.sumC], fun i' h => absurd h (Nat.not_lt_zero _), HV2.out, HJL.out, HPE.out, World.ownsRow_nil _ _ _ _, HB2.out, fun q hq => by cases hq⟩
  case round =>
    obtain ⟨i, left, hi, rfl, hall, hlv, hl16, hpe, hov, hb, hoff⟩ := hrel
    have HOF := hid hoff
    obtain ⟨ad, cd, rfl, hcd1, hcd2⟩ := hlv.len
    rw [List.length_map] at hcd1 hlv
    obtain ⟨ao, co, rfl, hco1, hco2⟩ := owns_slice hov
    have HB := hid hb
    have hsz := hb.size
    have HA := hid hall
    have HLV := hid hlv
    have HPR := hid hpe
    have HOV := hid hov
    have hsu : m.sumC (W.take i) ≤ 256 := by
      have := HSU.out (W.take i)
      rw [List.length_take] at this
      omega
    generalize hs : m.sumC (W.take i) = s at *
    have HS := hid hs
    obtain ⟨fs, hfs⟩ : ∃ z, z = F + s := ⟨_, rfl⟩
    rw [← hfs]
    have hfsn : fs ≤ 272 := by omega
    have HFQ := hid hfs
    have hxr := HX.out.below hb (Nat.le_refl _)
    have HXR := hid hxr
    obtain ⟨L, hL⟩ : ∃ n, n = left.length := ⟨_, rfl⟩
    rw [← hL] at hcd1 HLV hl16
    rw [show (left.map uv).length = L from by rw [List.length_map]; exact hL.symm]
    have HLE := hid hL
    clear hall hlv hpe hov hb hs hfs hxr hL hoff
    by_cases hlt : (fs : Int) < k
    · have HLTK := hid hlt
      obtain ⟨wq, hwq⟩ : ∃ wq, wq = wr := ⟨_, rfl⟩
      subst hwq
      go_wp2_with fail
      go_loopw [15, 59] (fun bz q wr => ∃ (j : Nat) (z : Int), q = .int .i64 j ∧ j ≤ L ∧ bz = .int .i64 z ∧ BestAt l tier left j z ∧ Below wq.heap.size wq wr) (fun _ q _ => L - (intOf q).toNat)
      case atStart => exact ⟨0, -1, rfl, Nat.zero_le _, rfl, BestAt.start l tier left, Below.refl _ _⟩
      case round =>
        obtain ⟨j, z, rfl, hj, rfl, hbest, hbq⟩ := hrel
        have HBQ := hid hbq
        by_cases hjl : j < L
        · have hji : (j : Int) < (L : Int) := by omega
          obtain ⟨y, hy⟩ : ∃ y, left[j]? = some y := ⟨_, List.getElem?_eq_getElem (by have := HLE.out; omega)⟩
          have hlv2 := HLV.out.all hbq
          obtain ⟨-, g, off, rfl, hg, hcell⟩ := RdV.at1 hlv2 j (uv y) (by rw [List.getElem?_map, hy]; rfl)
          have HY := hid hy
          have hc1 : wr.cell? ⟨g, off + j, none⟩ = some (.int .u32 (y : Nat)) := hcell
          have HRW := hid (HRL.out.below (HB.out.trans (hbq.mono HB.out.size)))
          have HT := hid (tierof_any wr _ l y HRW.out (by have := HLN.out; have := HLL.out; omega))
          have htl := HLT.out y
          have HLV2 := hid hlv2
          clear hbq hy hcell hlv2
          cases hfst : firstC l y with
          | none =>
            rw [hfst, tierC_none hfst] at HT
            have HBE := hid (hbest.skip HY.out (show lowC l tier y = none by unfold lowC; rw [hfst]))
            clear hfst hbest htl
            go_wp2_with (first
              | (go_at_call 57; (refine HT.out.mono ?_); rintro e w3 ⟨rfl, hb3⟩; have HB3 := hid (HBQ.out.trans (hb3.mono HBQ.out.size)); clear hb3)
              | fail)
            go_roundw
            case rel => exact ⟨j + 1, z, by go_num, by omega, rfl, HBE.out, HB3.out⟩
            case measure => simp [intOf]; omega
          | some d =>
            rw [hfst, tierC_some hfst] at HT
            rw [tierC_some hfst] at htl
            have hd1 : d.1 = y := by unfold firstC at hfst; simpa using List.find?_some hfst
            by_cases hlow : d.2 < tier
            · have hlowi : ¬ (tier : Int) ≤ (d.2 : Int) := by omega
              have hld : lowC l tier y = some d := by unfold lowC; rw [hfst]; simp [hlow]
              rcases hbest with ⟨rfl, hnone⟩ | ⟨b, c, yb, rfl, hbj, hyb, hlc, hmin⟩
              · have HBE := hid (BestAt.first hnone HY.out hld)
                clear hfst hnone hld hlow hd1
                go_wp2_with (first
                  | (go_at_call 57; (refine HT.out.mono ?_); rintro e w3 ⟨rfl, hb3⟩; have HB3 := hid (HBQ.out.trans (hb3.mono HBQ.out.size)); clear hb3)
                  | fail)
                go_roundw
                case rel => exact ⟨j + 1, (j : Nat), by go_num, by omega, rfl, HBE.out, HB3.out⟩
                case measure => simp [intOf]; omega
              · obtain ⟨hfc, htc, hc1', hct⟩ := low_one hlc
                obtain ⟨-, g', off', e', hg', hcell'⟩ := RdV.at1 HLV2.out b (uv yb) (by rw [List.getElem?_map, hyb]; rfl)
                simp only [Option.some.injEq, Addr.mk.injEq] at e'
                obtain ⟨rfl, rfl, -⟩ := e'
                have hcb : wr.cell? ⟨g, off + b, none⟩ = some (.int .u32 (yb : Nat)) := hcell'
                have hbi : (b : Int) < (L : Int) := by omega
                have hb0 : (0 : Int) ≤ (b : Int) := by omega
                have HT2 := hid (fun W (hW : Below wr.heap.size wr W) => show Calls Try.prog 57 #[.slice al ln cl, .int .u32 (yb : Nat)] W fun e w' => e = .returned (.tuple #[.int .u8 (c.2 : Nat), .bool true]) ∧ Below W.heap.size W w' from by
                  have h1 := tierof_any W _ l yb (HRW.out.below hW) (by have := HLN.out; have := HLL.out; omega)
                  rw [htc, hfc] at h1
                  exact h1)
                have HCB := hid (fun W (hW : Below wr.heap.size wr W) => show W.cell? ⟨g, off + b, none⟩ = some (.int .u32 (yb : Nat)) from (hW.cell (p := ⟨g, off + b, none⟩) hg).trans hcb)
                have hst : CBef c d → BestAt l tier left (j + 1) (b : Nat) := BestAt.stay hbj hyb hlc hmin HY.out hld
                have hnw : ¬ CBef c d → BestAt l tier left (j + 1) (j : Nat) := BestAt.new hmin HY.out hld
                unfold CBef at hst hnw
                rw [hc1', hd1] at hst hnw
                have HST := hid hst
                have HNW := hid hnw
                have hct8 : c.2 < 256 := by omega
                obtain ⟨u, hu⟩ : ∃ u, u = c.2 := ⟨_, rfl⟩
                obtain ⟨t, htt⟩ : ∃ t, t = d.2 := ⟨_, rfl⟩
                rw [← hu] at HT2 HST HNW hct8
                rw [← htt] at HT HST HNW hlowi htl
                clear hfst hld hlow hd1 hbj hyb hlc hmin hfc htc hc1' hct hg' hcell' hst hnw hu htt hg hcb
                rcases Nat.lt_trichotomy u t with hut | hut | hut
                · have HBE := hid (HST.out (.inl hut))
                  have hui : (u : Int) < (t : Int) := by omega
                  clear hut
                  go_wp2_with (first
                    | (go_at_call 57; (with_reducible refine HT.out.mono ?_); rintro e w3 ⟨rfl, hb3⟩; have HB3 := hid (HBQ.out.trans (hb3.mono HBQ.out.size)); have hcb3 := HCB.out w3 hb3; have HT3 := hid (HT2.out w3 hb3); clear hb3)
                    | (go_at_call 57; (with_reducible refine HT3.out.mono ?_); rintro e w4 ⟨rfl, hb4⟩; have HB4 := hid (HB3.out.trans (hb4.mono HB3.out.size)); have hcb4 := (hb4.cell (p := ⟨g, off + b, none⟩) (World.block_lt_of_cell? _ _ hcb3)).trans hcb3; clear hb4)
                    | fail)
                  go_roundw
                  case rel => exact ⟨j + 1, _, by go_num, by omega, rfl, HBE.out, HB4.out⟩
                  case measure => simp [intOf]; omega
                · by_cases hyy : y < yb
                  · have HBE := hid (HST.out (.inr ⟨hut, hyy⟩))
                    have hyi : (y : Int) < (yb : Int) := by omega
                    have hui : ¬ (u : Int) < (t : Int) := by omega
                    have hue : ((u : Int) == (t : Int)) = true := by rw [hut]; simp
                    subst hut
                    clear hyy
                    go_wp2_with (first
                      | (go_at_call 57; (with_reducible refine HT.out.mono ?_); rintro e w3 ⟨rfl, hb3⟩; have HB3 := hid (HBQ.out.trans (hb3.mono HBQ.out.size)); have hcb3 := HCB.out w3 hb3; have HT3 := hid (HT2.out w3 hb3); clear hb3)
                      | (go_at_call 57; (with_reducible refine HT3.out.mono ?_); rintro e w4 ⟨rfl, hb4⟩; have HB4 := hid (HB3.out.trans (hb4.mono HB3.out.size)); have hcb4 := (hb4.cell (p := ⟨g, off + b, none⟩) (World.block_lt_of_cell? _ _ hcb3)).trans hcb3; clear hb4)
                      | fail)
                    go_roundw
                    case rel => exact ⟨j + 1, _, by go_num, by omega, rfl, HBE.out, HB4.out⟩
                    case measure => simp [intOf]; omega
                  · have HBE := hid (HNW.out (by omega))
                    have hyi : ¬ (y : Int) < (yb : Int) := by omega
                    subst hut
                    clear hyy
                    go_wp2_with (first
                      | (go_at_call 57; (with_reducible refine HT.out.mono ?_); rintro e w3 ⟨rfl, hb3⟩; have HB3 := hid (HBQ.out.trans (hb3.mono HBQ.out.size)); have hcb3 := HCB.out w3 hb3; have HT3 := hid (HT2.out w3 hb3); clear hb3)
                      | (go_at_call 57; (with_reducible refine HT3.out.mono ?_); rintro e w4 ⟨rfl, hb4⟩; have HB4 := hid (HB3.out.trans (hb4.mono HB3.out.size)); have hcb4 := (hb4.cell (p := ⟨g, off + b, none⟩) (World.block_lt_of_cell? _ _ hcb3)).trans hcb3; clear hb4)
                      | fail)
                    go_roundw
                    case rel => exact ⟨j + 1, _, by go_num, by omega, rfl, HBE.out, HB4.out⟩
                    case measure => simp [intOf]; omega
                · have HBE := hid (HNW.out (by omega))
                  have hui : ¬ (u : Int) < (t : Int) := by omega
                  have hue : ((u : Int) == (t : Int)) = false := by rw [beq_eq_false_iff_ne]; omega
                  have hue2 : (u == t) = false := by rw [beq_eq_false_iff_ne]; omega
                  have hue3 : ¬ u = t := by omega
                  clear hut
                  go_wp2_with (first
                    | (go_at_call 57; (with_reducible refine HT.out.mono ?_); rintro e w3 ⟨rfl, hb3⟩; have HB3 := hid (HBQ.out.trans (hb3.mono HBQ.out.size)); have hcb3 := HCB.out w3 hb3; have HT3 := hid (HT2.out w3 hb3); clear hb3)
                    | (go_at_call 57; (with_reducible refine HT3.out.mono ?_); rintro e w4 ⟨rfl, hb4⟩; have HB4 := hid (HB3.out.trans (hb4.mono HB3.out.size)); have hcb4 := (hb4.cell (p := ⟨g, off + b, none⟩) (World.block_lt_of_cell? _ _ hcb3)).trans hcb3; clear hb4)
                    | fail)
                  go_roundw
                  case rel => exact ⟨j + 1, _, by go_num, by omega, rfl, HBE.out, HB4.out⟩
                  case measure => simp [intOf]; omega
            · have hlowi : (tier : Int) ≤ (d.2 : Int) := by omega
              have HBE := hid (hbest.skip HY.out (show lowC l tier y = none by unfold lowC; rw [hfst]; simp [hlow]))
              clear hfst hbest hlow hd1
              go_wp2_with (first
                | (go_at_call 57; (refine HT.out.mono ?_); rintro e w3 ⟨rfl, hb3⟩; have HB3 := hid (HBQ.out.trans (hb3.mono HBQ.out.size)); clear hb3)
                | fail)
              go_roundw
              case rel => exact ⟨j + 1, z, by go_num, by omega, rfl, HBE.out, HB3.out⟩
              case measure => simp [intOf]; omega
        · have hji : ¬ (j : Int) < (L : Int) := by omega
          have hjL : j = left.length := by have := HLE.out; omega
          rw [hjL] at hbest
          rcases hbest with ⟨rfl, hnone⟩ | ⟨b, c, yb, rfl, hbj, hyb, hlc, hmin⟩
          · have hR := best_none hnone HPR.out
            have hin : i = n := by
              have := congrArg List.length hR
              rw [List.length_drop, List.length_nil] at this
              have := HN.out
              omega
            have HQ := hid (show m.lv k F W = none from Mx.lv_of_none fun i' h' => by
              by_cases e : i' < i
              · exact HA.out i' e
              · have e2 : i' = i := by have := HN.out; omega
                subst e2; rw [HS.out, ← HFQ.out]; exact HLTK.out)
            clear hnone hR hin hjL hbq
            go_wp2_with fail
            go_ret2
            unfold RLeaveIs
            rw [HQ.out]
            exact ⟨HB.out.trans (HBQ.out.mono HB.out.size), rfl⟩
          · obtain ⟨R', hR', hpe'⟩ := best_some hyb hlc hmin HPR.out (HWN.out.sublist (List.drop_sublist _ _))
            obtain ⟨hfc, htc, hc1', hct⟩ := low_one hlc
            have hin : i < n := by
              have := congrArg List.length hR'
              rw [List.length_drop, List.length_cons] at this
              have := HN.out
              omega
            have hWi : W[i]? = some c := by
              have h1 := congrArg (fun q => q[0]?) hR'
              simpa using h1
            have hdr : W.drop (i + 1) = R' := by
              have h1 := congrArg (List.drop 1) hR'
              simpa [List.drop_drop, Nat.add_comm] using h1
            have HTS := hid (take_snoc' _ _ _ hWi)
            have HPE2 := hid (show ((left.take b ++ left.drop (b + 1)).filterMap (lowC l tier)).Perm (W.drop (i + 1)) by rw [hdr]; exact hpe')
            have hbL : b < L := by have := HLE.out; omega
            have hbi : (b : Int) < (L : Int) := by omega
            have hb0 : (0 : Int) ≤ (b : Int) := by omega
            have hb1 : ¬ (b : Int) < 0 := by omega
            obtain ⟨-, g, off, rfl, hg, hcell⟩ := RdV.at1 (HLV.out.all hbq) b (uv yb) (by rw [List.getElem?_map, hyb]; rfl)
            have hcb : wr.cell? ⟨g, off + b, none⟩ = some (.int .u32 (yb : Nat)) := hcell
            have HYB := hid hyb
            have HINN := hid hin
            have hcn := HCN.out yb
            have HSM := hid (show m.sumC (W.take (i + 1)) = s + m.cnt yb by rw [HTS.out, Mx.sumC_snoc, HS.out, hc1'])
            have HC1 := hid hc1'
            have HO2 := hid (owns_below HOV.out hbq)
            have HBW := hid (HB.out.trans (hbq.mono HB.out.size))
            have hsr := HBW.out.size
            have hsrc := hid (SrcC.lit wr #[.int .u32 (yb : Nat)] 33 1 [uv yb] rfl)
            have hof := hid (owns_below HO2.out ((Below.refl _ _).alloc (Nat.le_refl _) (.cells #[.int .u32 (yb : Nat)] 33)))
            have HZZ := hid (show (wr.alloc (.cells #[.int .u32 (yb : Nat)] 33)).heap.size = wr.heap.size + 1 by simp)
            have HLVB := hid (HLV.out.all hbq)
            clear hlc hmin hR' hpe' hfc htc hc1' hct hWi hdr hbq hcell hyb hbj hjL hin
            have HSG := hid (show g < wr.heap.size from hg)
            have HOG := hid (show ∀ q, (Value.slice ao i co).ownBlock = some q → g ≠ q from fun q hq => HOF.out q hq g off _ cd rfl)
            clear hg
            obtain ⟨wp, hwp⟩ : ∃ wp, wp = wr := ⟨_, rfl⟩
            subst hwp
            go_upto_region 22 with (first
              | (at_builtin; (refine appsw2 (by rfl) 60 33 (.tmp 112) (.tmp 114) rfl w.heap.size 1 4 _ Try.underlying60 info32 rfl (by decide) _ _ i 1 (i + 1) _ _ rfl rfl hof.out hsrc.out rfl (by intro y hy; rw [List.mem_singleton] at hy; subst hy; rfl) rfl (by omega) (by omega) (by have := HZZ.out; omega) ?_); intro ad9 cp9 wA hoA hgA hqA; have HOA := hid hoA; have HGA := hid hgA; have HQA := hid hqA; clear hoA hgA hqA)
              | fail)
            have HKA := hid ((Keeps.of_below (S := fun q => (Value.slice ao i co).ownBlock = some q) ((Below.refl _ wp).alloc (Nat.le_refl _) (.cells #[.int .u32 (yb : Nat)] 33)) (fun q hq hge => absurd hq (by omega))).trans (Keeps.of_grown HGA.out))
            have HBA := hid (show Below w.heap.size w wA from (HBW.out.alloc (by omega) _).grown HGA.out (by have := HZZ.out; omega) (fun q hq => (World.ownsRow.lt HO2.out q hq).1))
            have HLA := hid (HLVB.out.blk HKA.out (fun g' o' e => by
              simp only [Option.some.injEq, Addr.mk.injEq] at e
              rw [← e.1]
              exact fun hq => HOG.out g hq rfl))
            have HQ2 := hid (show ∀ q, (Value.slice ad9 (i + 1) cp9).ownBlock = some q → g ≠ q from fun q hq => by
              rcases HQA.out q hq with h1 | h1
              · exact HOG.out q h1
              · have := HSG.out; have := HZZ.out; omega)
            have hsA := HKA.out.size
            have hgA : g < wA.heap.size := Nat.lt_of_lt_of_le HSG.out hsA
            have HRF := hid (rof_any wA lo G m yb (HX.out.below HBA.out (Nat.le_refl _)))
            clear hcb
            go_wp2_with fail
            refine HRF.out.mono ?_
            rintro e w5 ⟨vn, rfl, hvn, hb5⟩
            have HVN := hid (RdV.of_own hvn)
            obtain ⟨an, cn, rfl, hcn1, hcn2⟩ := owns_slice hvn
            have HB5 := hid (HBA.out.trans (hb5.mono HBA.out.size))
            have HO5 := hid (owns_below HOA.out hb5)
            have HL5 := hid (HLA.out.all hb5)
            have hg5 : g < w5.heap.size := Nat.lt_of_lt_of_le hgA hb5.size
            have HNL := hid (fun x (hx : x ∈ m.nodes yb) => nodes_lt x hx)
            have hnlen : (m.nodes yb).length ≤ 16 := by
              unfold Mx.nodes
              split
              · simp
              · exact Nat.le_trans (show (m.own _ yb).length ≤ m.n from m.at_len _) hn16
            have HCY := hid (cnt_nodes m yb)
            obtain ⟨Q, hQ⟩ : ∃ Q, Q = m.nodes yb := ⟨_, rfl⟩
            rw [← hQ] at HVN HNL hnlen HCY hcn1 ⊢
            obtain ⟨nq, hnq⟩ : ∃ n, n = Q.length := ⟨_, rfl⟩
            rw [← hnq] at HVN hnlen hcn1 ⊢
            have HNQ := hid hnq
            clear hvn hb5 hQ hnq hgA hsA
            go_wp2_with fail
            go_loopw [12, 125] (fun hv q wr => ∃ t : Nat, q = .int .i64 t ∧ t ≤ nq ∧ hv = .int .i64 ((fs + ((Q.take t).filter fun x => !m.d x).length : Nat) : Int) ∧ Below w5.heap.size w5 wr) (fun _ q _ => nq - (intOf q).toNat)
            case atStart => exact ⟨0, rfl, Nat.zero_le _, by simp, Below.refl _ _⟩
            case round =>
              obtain ⟨t, rfl, htn, rfl, hbt⟩ := hrel
              have HBT := hid hbt
              by_cases htl : t < nq
              · obtain ⟨x, hx⟩ : ∃ x, Q[t]? = some x := ⟨_, List.getElem?_eq_getElem (by have := HNQ.out; omega)⟩
                obtain ⟨-, gn, on, rfl, hgn, hcelln⟩ := RdV.at1 (HVN.out.all hbt) t (iv x) (by rw [List.getElem?_map, hx]; rfl)
                have hcx : wr.cell? ⟨gn, on + t, none⟩ = some (.int .i64 (x : Nat)) := hcelln
                have hxn := HNL.out x (List.mem_of_getElem? hx)
                have hxr := HX.out.below (HB5.out.trans (hbt.mono HB5.out.size)) (Nat.le_refl _)
                have hup := hxr.up x hxn
                have hc1 := hxr.c1
                have hcur := hxr.cur
                have hcum := hxr.cum
                have hxni : (x : Int) < (m.n : Int) := by omega
                have hx0 : (0 : Int) ≤ (x : Int) := by omega
                have hti : (t : Int) < (nq : Int) := by omega
                have HT9 := hid (take_snoc' _ _ _ hx)
                have HU9 := hid (upN_snoc m (Q.take t) x)
                have hfl9 : (((Q.take t).filter fun x => !m.d x).length) ≤ 16 := Nat.le_trans (List.length_filter_le _ _) (by rw [List.length_take]; omega)
                generalize hff : (((Q.take t).filter fun x => !m.d x).length) = ff at *
                have HFF := hid hff
                obtain ⟨fz, hfz⟩ : ∃ z, z = fs + ff := ⟨_, rfl⟩
                rw [← hfz]
                have HFZ := hid hfz
                have hw1 := w64t fz (by omega)
                have HW1 := hid hw1
                clear hbt hx hcelln hxr hff hfz
                cases hd : m.d x with
                | true =>
                  rw [hd] at hup HU9
                  go_wp2_with fail
                  go_roundw
                  case rel => exact ⟨t + 1, by go_num, by omega, by rw [HT9.out, HU9.out, HFZ.out]; rfl, HBT.out⟩
                  case measure => simp [intOf]; omega
                | false =>
                  rw [hd] at hup HU9
                  go_wp2_with fail
                  go_roundw
                  case rel => exact ⟨t + 1, by go_num, by omega, by rw [HT9.out, HU9.out, HW1.out, HFZ.out]; simp [Nat.add_assoc], HBT.out⟩
                  case measure => simp [intOf]; omega
              · have hti : ¬ (t : Int) < (nq : Int) := by omega
                have HTK := hid (show ((Q.take t).filter fun x => !m.d x).length = m.cnt yb by rw [show t = nq by omega, HNQ.out, List.take_length]; exact HCY.out.symm)
                rw [HTK.out]
                have HBX := hid (HB5.out.trans (hbt.mono HB5.out.size))
                have HO6 := hid (owns_below HO5.out hbt)
                have HL6 := hid (HL5.out.all hbt)
                have hg6 : g < wr.heap.size := Nat.lt_of_lt_of_le hg5 hbt.size
                have HG6 := hid hg6
                have hbc : b ≤ cd := by omega
                have hbci : (b : Int) ≤ (cd : Int) := by omega
                have hw1 : IntKind.i64.wrap ((b : Int) + 1) = (b : Int) + 1 := by rw [IntKind.wrap_i64]; omega
                have hk1 : (b : Int) + 1 ≤ (L : Int) := by omega
                have hk2 : (0 : Int) ≤ (b : Int) + 1 := by omega
                have hnk : ¬ (b : Int) < 0 := by omega
                have ht1 : ((b : Int) + 1).toNat = b + 1 := by omega
                obtain ⟨l2, hl2⟩ : ∃ l2, l2 = left.take b ++ left.drop (b + 1) := ⟨_, rfl⟩
                have HL2 := hid hl2
                clear hbt hl2 hg6
                go_upto_region 29 with (fail)
                refine Orders.begins (C := []) (by kernel_rfl) ?_
                refine Orders.take (fun _ => True) [] (i := 1) (v := ?_) rfl (by kernel_rfl) (by kernel_rfl) (by kernel_rfl) (fun _ _ _ h => h) (by kernel_rfl) (fun _ _ _ _ => trivial) (by kernel_rfl) (by kernel_rfl) (Or.inl ⟨by rfl, ?_⟩) (fun c hc => by cases hc) (fun HU => ?_)
                rotate_left
                · intro u hSw
                  try dsimp only at hSw
                  go_simp
                  try (with_reducible rfl)
                clear HU
                try simp only [Act.put, List.getElem_toArray, List.getElem_cons_succ, List.getElem_cons_zero, List.setIfInBounds_toArray, List.set_cons_zero, List.set_cons_succ]
                refine Orders.take (fun _ => True) [] (i := 2) (v := ?_) rfl (by kernel_rfl) (by kernel_rfl) (by kernel_rfl) (fun _ _ _ h => h) (by kernel_rfl) (fun _ _ _ _ => trivial) (by kernel_rfl) (by kernel_rfl) (Or.inl ⟨by rfl, ?_⟩) (fun c hc => by cases hc) (fun HU => ?_)
                rotate_left
                · intro u hSw
                  try dsimp only at hSw
                  go_simp
                  try (with_reducible rfl)
                clear HU
                try simp only [Act.put, List.getElem_toArray, List.getElem_cons_succ, List.getElem_cons_zero, List.setIfInBounds_toArray, List.set_cons_zero, List.set_cons_succ]
                refine Orders.take (fun _ => True) [] (i := 3) (v := ?_) rfl (by kernel_rfl) (by kernel_rfl) (by kernel_rfl) (fun _ _ _ h => h) (by kernel_rfl) (fun _ _ _ _ => trivial) (by kernel_rfl) (by kernel_rfl) (Or.inl ⟨by rfl, ?_⟩) (fun c hc => by cases hc) (fun HU => ?_)
                rotate_left
                · intro u hSw
                  try dsimp only at hSw
                  go_simp
                  try (with_reducible rfl)
                clear HU
                try simp only [Act.put, List.getElem_toArray, List.getElem_cons_succ, List.getElem_cons_zero, List.setIfInBounds_toArray, List.set_cons_zero, List.set_cons_succ]
                refine Orders.take (fun _ => True) [] (i := 5) (v := ?_) rfl (by kernel_rfl) (by kernel_rfl) (by kernel_rfl) (fun _ _ _ h => h) (by kernel_rfl) (fun _ _ _ _ => trivial) (by kernel_rfl) (by kernel_rfl) (Or.inl ⟨by rfl, ?_⟩) (fun c hc => by cases hc) (fun HU => ?_)
                rotate_left
                · intro u hSw
                  try dsimp only at hSw
                  go_simp
                  try (with_reducible rfl)
                clear HU
                try simp only [Act.put, List.getElem_toArray, List.getElem_cons_succ, List.getElem_cons_zero, List.setIfInBounds_toArray, List.set_cons_zero, List.set_cons_succ]
                refine Orders.take (fun _ => True) [] (i := 6) (v := ?_) rfl (by kernel_rfl) (by kernel_rfl) (by kernel_rfl) (fun _ _ _ h => h) (by kernel_rfl) (fun _ _ _ _ => trivial) (by kernel_rfl) (by kernel_rfl) (Or.inl ⟨by rfl, ?_⟩) (fun c hc => by cases hc) (fun HU => ?_)
                rotate_left
                · intro u hSw
                  try dsimp only at hSw
                  go_simp
                  try (with_reducible rfl)
                clear HU
                try simp only [Act.put, List.getElem_toArray, List.getElem_cons_succ, List.getElem_cons_zero, List.setIfInBounds_toArray, List.set_cons_zero, List.set_cons_succ]
                refine Orders.take (fun _ => True) [] (i := 7) (v := ?_) rfl (by kernel_rfl) (by kernel_rfl) (by kernel_rfl) (fun _ _ _ h => h) (by kernel_rfl) (fun _ _ _ _ => trivial) (by kernel_rfl) (by kernel_rfl) (Or.inl ⟨by rfl, ?_⟩) (fun c hc => by cases hc) (fun HU => ?_)
                rotate_left
                · intro u hSw
                  try dsimp only at hSw
                  go_simp
                  try (with_reducible rfl)
                clear HU
                try simp only [Act.put, List.getElem_toArray, List.getElem_cons_succ, List.getElem_cons_zero, List.setIfInBounds_toArray, List.set_cons_zero, List.set_cons_succ]
                refine Orders.take (fun _ => True) [] (i := 8) (v := ?_) rfl (by kernel_rfl) (by kernel_rfl) (by kernel_rfl) (fun _ _ _ h => h) (by kernel_rfl) (fun _ _ _ _ => trivial) (by kernel_rfl) (by kernel_rfl) (Or.inl ⟨by rfl, ?_⟩) (fun c hc => by cases hc) (fun HU => ?_)
                rotate_left
                · intro u hSw
                  try dsimp only at hSw
                  go_simp
                  try (with_reducible rfl)
                clear HU
                try simp only [Act.put, List.getElem_toArray, List.getElem_cons_succ, List.getElem_cons_zero, List.setIfInBounds_toArray, List.set_cons_zero, List.set_cons_succ]
                refine Orders.one (i := 0) (by kernel_rfl) rfl (fun K9 hK9 => ?_)
                go_simp
                refine hK9.out _ _ (fun c hc => by cases hc) (fun HU => ?_)
                clear hK9 K9 HU
                try simp only [Act.put, List.getElem_toArray, List.getElem_cons_succ, List.getElem_cons_zero, List.setIfInBounds_toArray, List.set_cons_zero, List.set_cons_succ]
                obtain ⟨wx, hwx⟩ : ∃ x, x = (wr.alloc (.cells #[] 33)).drew := ⟨_, rfl⟩
                rw [← hwx]
                have hbx : Below wr.heap.size wr wx := by rw [hwx]; exact ((Below.refl _ wr).alloc (Nat.le_refl _) _).drew
                have hgx : wx.heap[wr.heap.size]? = some (.cells #[] 33 (0, 0)) := by rw [hwx]; exact heap_alloc_new wr _
                have hox : wx.ownsRow wr.heap.size 33 1 (.slice (some ⟨wr.heap.size, 0, none⟩) 0 0) 0 [] := ⟨rfl, .inr ⟨wr.heap.size, 0, #[], rfl, Nat.le_refl _, hgx, Nat.le_refl _, by unfold maxLen; omega, rfl, rfl⟩⟩
                have hlx := HL6.out.all hbx
                have hs1 : SrcC wx (.slice (some ⟨g, off, none⟩) b cd) b ((left.map uv).take b) := SrcC.of_rdv hlx 0 b ⟨g, off, none⟩ cd _ (by rw [List.drop_zero]) (.inl rfl)
                have hl1 : ((left.map uv).take b).length = b * 1 := by rw [List.length_take, List.length_map]; have := HLE.out; omega
                have HBX2 := hid hbx
                have hb16 : b ≤ 16 := by omega
                clear hwx hgx hbx
                refine Orders.one (i := 4) (by kernel_rfl) rfl (fun K9 hK9 => ?_)
                refine appsst rfl 60 33 (.tmp 139) (.tmp 142) rfl wr.heap.size 1 4 (.int .u32 0) Try.underlying60 info32 rfl (by omega) _ _ 0 b b [] ((left.map uv).take b) rfl rfl hox hs1 hl1 (by intro y hy; obtain ⟨z, _, rfl⟩ := List.mem_map.1 (List.mem_of_mem_take hy); rfl) (by omega) (by omega) (by omega) HBX2.out.size ?_
                intro ad1 cp1 w7 ho7 hg7
                refine hK9.out _ _ (fun c hc => by cases hc) (fun HU => ?_)
                clear hK9 K9 HU
                rw [List.nil_append] at ho7
                have hb7 : Below wr.heap.size wx w7 := below_of_keepsC (Keeps.of_grown hg7) HBX2.out.size fun k e => (World.ownsRow.lt hox k e).1
                have HB7 := hid (HBX2.out.trans hb7)
                have HL7 := hid (HL6.out.all HB7.out)
                have HO7 := hid ho7
                clear hb7 hg7 hox hs1 hl1 hlx
                try simp only [Act.put, List.getElem_toArray, List.getElem_cons_succ, List.getElem_cons_zero, List.setIfInBounds_toArray, List.set_cons_zero, List.set_cons_succ]
                have hs2 : SrcC w7 (.slice (if cd = b + 1 then some ⟨g, off, none⟩ else some ⟨g, off + (b + 1), none⟩) (L - (b + 1)) (cd - (b + 1))) (L - (b + 1)) (((left.map uv).drop (b + 1)).take (L - (b + 1))) := by
                  by_cases hce : cd = b + 1
                  · rw [if_pos hce]
                    exact SrcC.of_rdv HL7.out (b + 1) _ _ _ _ rfl (.inr (by rw [show L - (b + 1) = 0 by omega, List.take_zero]))
                  · rw [if_neg hce]
                    exact SrcC.of_rdv HL7.out (b + 1) _ _ _ _ rfl (.inl rfl)
                have hl2 : (((left.map uv).drop (b + 1)).take (L - (b + 1))).length = (L - (b + 1)) * 1 := by rw [List.length_take, List.length_drop, List.length_map]; have := HLE.out; omega
                refine Orders.one (i := 9) (by kernel_rfl) rfl (fun K9 hK9 => ?_)
                refine appsst rfl 60 33 (.tmp 143) (.tmp 147) rfl wr.heap.size 1 4 (.int .u32 0) Try.underlying60 info32 rfl (by omega) _ _ b (L - (b + 1)) (L - 1) _ (((left.map uv).drop (b + 1)).take (L - (b + 1))) rfl rfl HO7.out hs2 hl2 (by intro y hy; obtain ⟨z, _, rfl⟩ := List.mem_map.1 (List.mem_of_mem_drop (List.mem_of_mem_take hy)); rfl) (by omega) (by omega) (by omega) HB7.out.size ?_
                intro ad2 cp2 w8 ho8 hg8
                refine hK9.out _ _ (fun c hc => by cases hc) (fun HU => ?_)
                clear hK9 K9 HU
                have HB8 := hid (show Below wr.heap.size wr w8 from HB7.out.trans (below_of_keepsC (Keeps.of_grown hg8) HB7.out.size fun k e => (World.ownsRow.lt HO7.out k e).1))
                have hlz : l2.map uv = (left.map uv).take b ++ ((left.map uv).drop (b + 1)).take (L - (b + 1)) := by
                  rw [HL2.out, List.map_append, List.map_take, List.map_drop]
                  congr 1
                  rw [List.take_of_length_le (by rw [List.length_drop, List.length_map]; have := HLE.out; omega)]
                have HL16 := hid (show l2.length ≤ 16 by have h1 := congrArg List.length hlz; simp only [List.length_map, List.length_append, List.length_take, List.length_drop] at h1; omega)
                have HLZ := hid (show RdV w8 (.slice ad2 (L - 1) cp2) (l2.map uv) from by rw [hlz]; exact RdV.of_own ho8)
                have HOZ := hid (owns_below HO6.out HB8.out)
                have HBZ := hid (HBX.out.trans (HB8.out.mono HBX.out.size))
                have HOFZ := hid (show ∀ q, (Value.slice ad9 (i + 1) cp9).ownBlock = some q → Off (.slice ad2 (L - 1) cp2) q from fun q hq => by
                  have h1 := (World.ownsRow.lt HO6.out q hq).2
                  intro g' o' n' c' e
                  simp only [Value.slice.injEq] at e
                  obtain ⟨rfl, rfl, rfl⟩ := e
                  rcases owns_shape ho8 with ⟨h2, _⟩ | ⟨g9, c9, h2, h3, _⟩
                  · cases h2
                  · simp only [Value.slice.injEq, Option.some.injEq, Addr.mk.injEq] at h2
                    omega)
                clear ho8 hg8 hlz hs2 hl2
                try simp only [Act.put, List.getElem_toArray, List.getElem_cons_succ, List.getElem_cons_zero, List.setIfInBounds_toArray, List.set_cons_zero, List.set_cons_succ]
                refine Orders.one (i := 10) (by kernel_rfl) rfl (fun K9 hK9 => ?_)
                go_simp
                refine hK9.out _ _ (fun c hc => by cases hc) (fun HU => ?_)
                clear hK9 K9 HU
                try simp only [Act.put, List.getElem_toArray, List.getElem_cons_succ, List.getElem_cons_zero, List.setIfInBounds_toArray, List.set_cons_zero, List.set_cons_succ]
                refine Orders.ends (by kernel_rfl) ?_ _
                go_wp2_with fail
                go_roundw
                case rel => exact ⟨i + 1, l2, HINN.out, by rw [HSM.out, HFQ.out]; congr 1; omega, fun i' h' => by
                  by_cases e : i' = i
                  · subst e; rw [HS.out, ← HFQ.out]; exact HLTK.out
                  · exact HA.out i' (Nat.lt_of_le_of_ne (Nat.le_of_lt_succ h') e), HLZ.out, HL16.out, by rw [HL2.out]; exact HPE2.out, by rw [HTS.out, List.map_append, List.map_singleton, HC1.out]; exact HOZ.out, HBZ.out, HOFZ.out⟩
                case measure => have := HINN.out; simp; omega
    · have HQ := hid (show m.lv k F W = some (W.take i) from Mx.lv_of (by have := HN.out; omega) (by rw [HS.out, ← HFQ.out]; omega) HA.out)
      have hlt2 : k ≤ (fs : Int) := by omega
      have HTL := hid (show (W.take i).length = i by rw [List.length_take]; have := HN.out; omega)
      go_wp2_with fail
      go_ret2
      unfold RLeaveIs
      rw [HQ.out]
      exact ⟨HB.out, _, rfl, by rw [HTL.out]; exact HOV.out⟩

end Go.Proofs.Ytdongghjchnpbaa

namespace Go.Proofs.Ytdongghjchnpbaa
open Go.RowKit Go.Shelf
set_option linter.unusedVariables false
set_option linter.unusedSimpArgs false

theorem who_sorted (m : Mx) (row : Nat) (l : List Cd) (tier : Nat) : (m.who row l tier).Pairwise CBef := by
  refine sortC_sorted ?_
  have h1 : ((m.lows row l tier).map Prod.fst).Nodup := List.Nodup.sublist (low_sub l tier _) (m.row_nodup row)
  exact List.Pairwise.of_map Prod.fst (fun a b hab e => hab (by rw [e])) h1

theorem grC_snoc (q : List Cd) (c : Cd) : grC (q ++ [c]) = (c.2 : Int) := by unfold grC; rw [List.getLast?_concat]

theorem topC_len {l : List Cd} : ∀ (n : Nat) (q : List Cd), q.length = n → (∀ c ∈ q, tierC l c.1 = c.2) → q.Pairwise CBef → topC l (q.map Prod.fst) = grC q
  | 0, q, hn, _, _ => by
    have : q = [] := List.length_eq_zero_iff.1 hn
    subst this
    rfl
  | n + 1, q, hn, h1, h2 => by
    have hq : q ≠ [] := by intro e; rw [e] at hn; simp at hn
    obtain ⟨p, hp⟩ : ∃ p, p = q.dropLast := ⟨_, rfl⟩
    obtain ⟨c, hc⟩ : ∃ c, c = q.getLast hq := ⟨_, rfl⟩
    have e : q = p ++ [c] := by rw [hp, hc, List.dropLast_concat_getLast]
    have hpl : p.length = n := by rw [hp, List.length_dropLast, hn]; rfl
    rw [e] at h1 h2
    rw [e, List.map_append, List.map_singleton, topC_snoc, grC_snoc, h1 c (by simp), topC_len n p hpl (fun d hd => h1 d (by simp [hd])) (List.pairwise_append.1 h2).1]
    have h3 : grC p ≤ (c.2 : Int) := by
      cases e : p.getLast? with
      | none => unfold grC; rw [e]; simp only; omega
      | some d =>
        have h4 := (List.pairwise_append.1 h2).2.2 d (List.mem_of_getLast? e) c (by simp)
        unfold grC; rw [e]
        unfold CBef at h4
        simp only; omega
    split <;> omega

theorem topC_eq {l : List Cd} (q : List Cd) (h1 : ∀ c ∈ q, tierC l c.1 = c.2) (h2 : q.Pairwise CBef) : topC l (q.map Prod.fst) = grC q := topC_len q.length q rfl h1 h2

theorem who_tier {m : Mx} {row : Nat} {l : List Cd} {tier : Nat} : ∀ c ∈ m.who row l tier, tierC l c.1 = c.2 := by
  intro c hc
  have h1 : c ∈ m.lows row l tier := (sortC_perm _).mem_iff.1 hc
  unfold Mx.lows at h1
  obtain ⟨j, _, h3⟩ := List.mem_filterMap.1 h1
  have h4 := low_one h3
  rw [h4.2.2.1, h4.2.1]

theorem leave_top {m : Mx} {row : Nat} {l : List Cd} {tier : Nat} {k : Int} {q : List Cd} (h : m.leave row l tier k = some q) : topC l (q.map Prod.fst) = grC q := by
  obtain ⟨n, _, rfl⟩ := Mx.leave_sub h
  exact topC_eq _ (fun c hc => who_tier c (List.mem_of_mem_take hc)) ((who_sorted m row l tier).sublist (List.take_sublist _ _))

theorem rof15_all (w : World) (lo : Nat) (G : Geo) (m : Mx) (row : Nat) (vl : Value) (l : List Cd) (tier : Nat) (k : Int) (h : RxAt w lo G m) (ho : One m) (hrow : row < m.r) (hl : RdC w vl l) (hll : l.length ≤ 1000) (ht : tier < 256) (hlb : ∀ x ∈ l, x.1 < 4294967296 ∧ x.2 < 256) :
    Calls Try.prog 29 #[.pointer (some ⟨G.x, 0, none⟩), .int .i64 row, vl, .int .u8 (tier : Nat), .int .i64 k] w (RLeaveIs w (m.leave row l tier k)) := by
  by_cases hk : k < 1
  · refine (rof15_low w lo G m h row vl tier k hk).mono ?_
    rintro e w' ⟨rfl, rfl⟩
    unfold RLeaveIs Mx.leave
    rw [if_pos hk]
    exact ⟨Below.refl _ _, rfl⟩
  · exact rof15_any w lo G m row vl l tier k h ho hrow (by omega) hl hll ht hlb (who_sorted m row l tier)

/-- What the document's Choose tells. -/
def RChoIs (w : World) (o : Option (Nat × List Cd)) (e : Ending) (w' : World) : Prop :=
  Below w.heap.size w w' ∧ match o with
  | none => e = .returned (.tuple #[.int .i64 0, .slice none 0 0, .bool false])
  | some p => ∃ u, e = .returned (.tuple #[.int .i64 (p.1 : Nat), u, .bool true]) ∧ RdV w' u ((p.2.map Prod.fst).map uv)

def RChoMid (wr : World) (o : Option (Nat × List Cd)) (lv av fv : Value) : Prop :=
  (o = none ∧ lv = .slice none 0 0 ∧ av = .int .i64 0 ∧ fv = .bool false) ∨ ∃ bb p, o = some (bb, p) ∧ RdV wr lv ((p.map Prod.fst).map uv) ∧ av = .int .i64 (bb : Nat) ∧ fv = .bool true

theorem RChoMid.below {wr w' : World} {o : Option (Nat × List Cd)} {lv av fv : Value} (h : RChoMid wr o lv av fv) (hb : Below wr.heap.size wr w') : RChoMid w' o lv av fv := by
  rcases h with h | ⟨bb, p, h1, h2, h3⟩
  · exact .inl h
  · exact .inr ⟨bb, p, h1, h2.all hb, h3⟩

theorem rchoose_nil (w : World) (v : Value) (tier : Nat) (K : Int) :
    Calls Try.prog 27 #[.pointer none, v, .int .u8 (tier : Nat), .int .i64 K] w fun e w' => e = .returned (.tuple #[.int .i64 0, .slice none 0 0, .bool false]) ∧ w = w' := by
  go_enter Try.func27, Try.ntmps27
  go_wp2_with fail
  go_ret3
  exact ⟨rfl, rfl⟩

set_option maxRecDepth 100000 in
set_option maxHeartbeats 8000000 in
theorem rchoose_any (w : World) (lo : Nat) (G : Geo) (m : Mx) (vl : Value) (l : List Cd) (tier : Nat) (K : Int) (h : RxAt w lo G m) (ho : One m) (hl : RdC w vl l) (hll : l.length ≤ 1000) (ht : tier < 256) (hlb : ∀ x ∈ l, x.1 < 4294967296 ∧ x.2 < 256) :
    Calls Try.prog 27 #[.pointer (some ⟨G.x, 0, none⟩), vl, .int .u8 (tier : Nat), .int .i64 K] w (RChoIs w (best15 (fun r => m.leave r l tier K) m.r)) := by
  obtain ⟨al, cl, rfl, hcl1, hcl2⟩ := hl.len
  obtain ⟨ln, hln⟩ : ∃ n, n = l.length := ⟨_, rfl⟩
  rw [← hln] at hcl1 hl ⊢
  obtain ⟨y0, hy0⟩ : ∃ y, y = w.alloc (.cells #[.slice al ln cl] 110) := ⟨_, rfl⟩
  have hb0 : Below w.heap.size w y0 := by rw [hy0]; exact (Below.refl _ _).alloc (Nat.le_refl _) _
  have hg0 : y0.heap[w.heap.size]? = some (.cells #[.slice al ln cl] 110 (0, 0)) := by rw [hy0]; exact heap_alloc_new w _
  obtain ⟨pb, hpb⟩ : ∃ p, p = w.heap.size := ⟨_, rfl⟩
  rw [← hpb] at hg0
  have hpl : pb < y0.heap.size := (Array.getElem?_eq_some_iff.1 hg0).1
  have HG := hid hg0
  have HB0 := hid hb0
  have hxy := h.below hb0 (Nat.le_refl _)
  have hly := hl.below hb0
  have HLV := hid (fun W (hb : Below y0.heap.size y0 W) row (hr : row < m.r) => rof15_all W lo G m row _ l tier K (hxy.below hb (Nat.le_refl _)) ho hr (hly.below hb) (by omega) ht hlb)
  have HTP := hid (fun W (hb : Below y0.heap.size y0 W) vj J hj => topof_any W _ vj l J (hly.below hb) (by omega) hlb hj)
  have HTO := hid (fun row q (hq : m.leave row l tier K = some q) => show topC l (q.map Prod.fst) = grC q from leave_top hq)
  have hr8 := h.r8
  have hc0 := hxy.c0
  have HC0 := hid hc0
  have hccr := h.ccr
  have hccm := h.ccm
  generalize hf : (fun r => m.leave r l tier K) = f
  have HLV2 := hid (show ∀ W, Below y0.heap.size y0 W → ∀ row, row < m.r → Calls Try.prog 29 #[.pointer (some ⟨G.x, 0, none⟩), .int .i64 row, .slice al ln cl, .int .u8 (tier : Nat), .int .i64 K] W (RLeaveIs W (f row)) from fun W hb row hr => by rw [← hf]; exact HLV.out W hb row hr)
  have HTO2 := hid (show ∀ row q, f row = some q → topC l (q.map Prod.fst) = grC q from fun row q hq => by rw [← hf] at hq; exact HTO.out row q hq)
  clear h hl hll ht hlb hb0 hg0 hf HLV HTO hxy hly hln
  generalize hR : m.r = R at *
  clear hR
  go_enter Try.func27, Try.ntmps27
  go_upto_region 6 with (fail)
  rw [← hy0, ← hpb]
  clear hy0 hpb
  go_wp2_with fail
  go_loopw [11, 12, 13, 27] (fun av fv lv i wr => ∃ k : Nat, i = .int .i64 k ∧ k ≤ R ∧ RChoMid wr (best15 f k) lv av fv ∧ Below y0.heap.size y0 wr) (fun _ _ _ i _ => R - (intOf i).toNat)
  case atStart => exact ⟨0, rfl, Nat.zero_le _, .inl ⟨rfl, rfl, rfl, rfl⟩, Below.refl _ _⟩
  case round =>
    obtain ⟨k, rfl, hk, hm, hb⟩ := hrel
    have HB := hid hb
    by_cases hkn : k < R
    · have hki : (k : Int) < (R : Int) := by omega
      have HM := hid hm
      have HL := hid (HLV2.out wr hb k hkn)
      clear hb hm
      cases hv : f k with
      | none =>
        rw [hv] at HL
        have HE := hid (step15_none hv)
        clear hv
        go_wp2_with (first
          | (go_at_call 29; (with_reducible refine HL.out.mono ?_); rintro e w2 ⟨hb2, rfl⟩; have HB2 := hid (HB.out.trans (hb2.mono HB.out.size)); have HM2 := hid (HM.out.below hb2); clear hb2)
          | fail)
        go_roundw
        case rel => exact ⟨k + 1, by go_num, by omega, by rw [HE.out]; exact HM2.out, HB2.out⟩
        case measure => simp [intOf]; omega
      | some q =>
        rw [hv] at HL
        have HV := hid hv
        have hqt := HTO2.out k q hv
        clear hv
        go_upto_region 10 with (first
          | (go_at_call 29; (with_reducible refine HL.out.mono ?_); rintro e w2 ⟨hb2, v2, rfl, hr2⟩; have HB2 := hid (HB.out.trans (hb2.mono HB.out.size)); have hm2 := HM.out.below hb2; have HR2 := hid (show RdV w2 v2 ((q.map Prod.fst).map uv) from by rw [List.map_map]; exact RdV.of_own hr2); obtain ⟨a2, c2, rfl, -, -⟩ := owns_slice hr2; clear hb2 hr2)
          | fail)
        have b1 : w2.drew.cell? ⟨pb, 0, none⟩ = some (.slice al ln cl) := (HB2.out.cell (p := ⟨pb, 0, none⟩) hpl).trans ((cell_of_row _ _ _ _ _ _ HG.out).trans rfl)
        rcases hm2 with ⟨ho, rfl, rfl, rfl⟩ | ⟨bb, p, ho, hp, rfl, rfl⟩
        · have HE := hid (step15_first HV.out ho)
          clear ho
          go_upto_region 11 with (fail)
          go_quiet (fail)
          go_wp2_with fail
          go_roundw
          case rel => exact ⟨k + 1, by go_num, by omega, .inr ⟨k, q, HE.out, HR2.out.drewN _, rfl, rfl⟩, (show Below y0.heap.size y0 (w2.drewN nq) from ⟨HB2.out.os, HB2.out.tape, HB2.out.output, HB2.out.size, HB2.out.block⟩)⟩
          case measure => simp [intOf]; omega
        · obtain ⟨a9, c9, hv9, -, -⟩ := hp.len
          rw [List.length_map, List.length_map] at hv9
          subst hv9
          have HP := hid hp
          have hpt : topC l (p.map Prod.fst) = grC p := by
            obtain ⟨hbb, hfb, -⟩ := best15_some ho
            exact HTO2.out bb p hfb
          rcases Nat.lt_trichotomy q.length p.length with hql | hql | hql
          · have HE := hid (step15_less HV.out ho (.inl hql))
            have hqi : (q.length : Int) < (p.length : Int) := by omega
            clear ho hp hql
            go_upto_region 11 with (fail)
            go_quiet (fail)
            go_wp2_with fail
            go_roundw
            case rel => exact ⟨k + 1, by go_num, by omega, .inr ⟨k, q, HE.out, HR2.out.drewN _, rfl, rfl⟩, (show Below y0.heap.size y0 (w2.drewN nq) from ⟨HB2.out.os, HB2.out.tape, HB2.out.output, HB2.out.size, HB2.out.block⟩)⟩
            case measure => simp [intOf]; omega
          · have hqi : ¬ (q.length : Int) < (p.length : Int) := by omega
            have hqe : ((q.length : Int) == (p.length : Int)) = true := by rw [hql]; simp
            have HTV := hid (fun W (hW : Below w2.heap.size w2 W) => show Calls Try.prog 56 #[.agg #[.slice al ln cl], .slice a2 q.length c2] W fun e w' => e = .returned (.int .i64 (grC q)) ∧ Below W.heap.size W w' from by
              have h1 := HTP.out W (HB2.out.trans (hW.mono HB2.out.size)) _ _ (HR2.out.all hW)
              rwa [hqt] at h1)
            have HTB := hid (fun W (hW : Below w2.heap.size w2 W) => show Calls Try.prog 56 #[.agg #[.slice al ln cl], .slice a9 p.length c9] W fun e w' => e = .returned (.int .i64 (grC p)) ∧ Below W.heap.size W w' from by
              have h1 := HTP.out W (HB2.out.trans (hW.mono HB2.out.size)) _ _ (HP.out.all hW)
              rwa [hpt] at h1)
            have HOC := hid (fun (W : World) (hW : Below w2.heap.size w2 W) => show W.cell? ⟨pb, 0, none⟩ = some (.slice al ln cl) from (hW.cell (p := ⟨pb, 0, none⟩) (World.block_lt_of_cell? _ _ b1)).trans b1)
            have hstay : ¬ grC q < grC p → best15 f (k + 1) = some (bb, p) := fun hh => (step15_stay HV.out ho (by unfold Harm; simp only; omega)).trans ho
            have hless : grC q < grC p → best15 f (k + 1) = some (k, q) := fun hh => step15_less HV.out ho (.inr ⟨hql, hh⟩)
            have HST := hid hstay
            have HLS := hid hless
            clear hstay hless hqt hpt ho hp
            generalize grC q = gq at *
            generalize grC p = gp at *
            rw [hql] at HTV ⊢
            have HQL := hid hql
            clear hql hqi hqe
            have hqi : ¬ (p.length : Int) < (p.length : Int) := by omega
            go_upto_region 11 with (fail)
            by_cases hgg : gq < gp
            · have HE := hid (HLS.out hgg)
              go_region_held3 (fun w' => w'.cell? ⟨pb, 0, none⟩ = some (.slice al ln cl)) (first | assumption | fail)
                (first
                  | (go_at_call 56; (with_reducible refine (HTV.out _ (Below.refl _ _).drew).mono ?_); rintro e s1 ⟨rfl, hs1⟩; have HS1 := hid (show Below w2.heap.size w2 s1 from (Below.refl _ w2).drew.trans hs1); have c1 := HOC.out s1 HS1.out; clear hs1)
                  | (go_at_call 56; (with_reducible refine (HTB.out s1 HS1.out).mono ?_); rintro e s2 ⟨rfl, hs2⟩; have HS2 := hid (show Below w2.heap.size w2 s2 from HS1.out.trans (hs2.mono HS1.out.size)); have c2' := HOC.out s2 HS2.out; clear hs2)
                  | fail)
              go_wp2_with fail
              go_roundw
              case rel => exact ⟨k + 1, by go_num, by omega, .inr ⟨k, q, HE.out, by have h1 := HR2.out.all HS2.out; rw [HQL.out] at h1; exact h1, rfl, rfl⟩, HB2.out.trans (HS2.out.mono HB2.out.size)⟩
              case measure => simp [intOf]; omega
            · have HE := hid (HST.out hgg)
              go_region_held3 (fun w' => w'.cell? ⟨pb, 0, none⟩ = some (.slice al ln cl)) (first | assumption | fail)
                (first
                  | (go_at_call 56; (with_reducible refine (HTV.out _ (Below.refl _ _).drew).mono ?_); rintro e s1 ⟨rfl, hs1⟩; have HS1 := hid (show Below w2.heap.size w2 s1 from (Below.refl _ w2).drew.trans hs1); have c1 := HOC.out s1 HS1.out; clear hs1)
                  | (go_at_call 56; (with_reducible refine (HTB.out s1 HS1.out).mono ?_); rintro e s2 ⟨rfl, hs2⟩; have HS2 := hid (show Below w2.heap.size w2 s2 from HS1.out.trans (hs2.mono HS1.out.size)); have c2' := HOC.out s2 HS2.out; clear hs2)
                  | fail)
              go_wp2_with fail
              go_roundw
              case rel => exact ⟨k + 1, by go_num, by omega, .inr ⟨bb, p, HE.out, HP.out.all HS2.out, rfl, rfl⟩, HB2.out.trans (HS2.out.mono HB2.out.size)⟩
              case measure => simp [intOf]; omega
          · have HE := hid ((step15_stay HV.out ho (by unfold Harm; simp only; omega)).trans ho)
            have hqi : ¬ (q.length : Int) < (p.length : Int) := by omega
            have hqe : ((q.length : Int) == (p.length : Int)) = false := by rw [beq_eq_false_iff_ne]; omega
            have hqe2 : (q.length == p.length) = false := by rw [beq_eq_false_iff_ne]; omega
            have hqe3 : ¬ q.length = p.length := by omega
            clear ho hp
            go_upto_region 11 with (fail)
            go_quiet (fail)
            go_wp2_with fail
            go_roundw
            case rel => exact ⟨k + 1, by go_num, by omega, .inr ⟨bb, p, HE.out, HP.out.drewN _, rfl, rfl⟩, (show Below y0.heap.size y0 (w2.drewN nq) from ⟨HB2.out.os, HB2.out.tape, HB2.out.output, HB2.out.size, HB2.out.block⟩)⟩
            case measure => simp [intOf]; omega
    · have hki : ¬ (k : Int) < (R : Int) := by omega
      have hkR : k = R := by omega
      rw [hkR] at hm
      have HW := hid (HB0.out.trans (hb.mono HB0.out.size))
      clear hb hkR hkn
      rcases hm with ⟨ho, rfl, rfl, rfl⟩ | ⟨bb, p, ho, hp, rfl, rfl⟩
      · have HO := hid ho
        clear ho
        go_wp2_with fail
        go_ret3
        unfold RChoIs
        rw [HO.out]
        exact ⟨HW.out, rfl⟩
      · have HO := hid ho
        have HP := hid hp
        clear ho hp
        go_wp2_with fail
        go_ret3
        unfold RChoIs
        rw [HO.out]
        exact ⟨HW.out, _, rfl, HP.out⟩

end Go.Proofs.Ytdongghjchnpbaa

namespace Go.Proofs.Ytdongghjchnpbaa
open Go.RowKit Go.Shelf
set_option linter.unusedVariables false
set_option linter.unusedSimpArgs false

set_option maxRecDepth 100000 in
set_option maxHeartbeats 4000000 in
theorem belowC_no (w : World) (b : Nat) (row : Int) (m : Mx) (vl : Value) (tier : Nat) (h : MxAt w b m) (hrow : row < 0 ∨ (m.r : Int) ≤ row) :
    Calls Try.prog 64 #[.pointer (some ⟨b, 0, none⟩), .int .i64 row, vl, .int .u8 (tier : Nat)] w fun e w' => e = .returned (.slice none 0 0) ∧ Below w.heap.size w w' := by
  have HRN := hid (row_no w b m row h hrow)
  have HSO := hid (fun W => sortC_any W w.heap.size (.slice none 0 0) [] (World.ownsRow_nil _ _ _ _) (by simp))
  clear h hrow
  go_enter Try.func64, Try.ntmps64
  go_wp2_with fail
  refine HRN.out.mono ?_
  rintro e w1 ⟨rfl, hb1⟩
  have HB1 := hid hb1
  clear hb1
  go_wp2_with fail
  go_loopw [9, 17] (fun u i wr => u = .slice none 0 0 ∧ i = .int .i64 0 ∧ wr = w1) (fun _ i _ => 0)
  case atStart => exact ⟨rfl, rfl, rfl⟩
  case round =>
    obtain ⟨rfl, rfl, rfl⟩ := hrel
    go_wp2_with fail
    refine (HSO.out _).mono ?_
    rintro e w3 ⟨rfl, -, hk3⟩
    have HB3 := hid (HB1.out.trans (below_of_keepsC hk3 HB1.out.size (fun q hq => by cases hq)))
    clear hk3
    go_wp2_with fail
    go_ret
    exact ⟨rfl, HB3.out⟩

set_option maxHeartbeats 4000000 in
theorem leaving_no (w : World) (b : Nat) (row : Int) (m : Mx) (vl : Value) (tier : Nat) (k : Int) (h : MxAt w b m) (hrow : row < 0 ∨ (m.r : Int) ≤ row) :
    Calls Try.prog 53 #[.pointer (some ⟨b, 0, none⟩), .int .i64 row, vl, .int .u8 (tier : Nat), .int .i64 k] w fun e w' => e = .returned (.tuple #[.slice none 0 0, .bool false]) ∧ Below w.heap.size w w' := by
  by_cases hk1 : k < 1
  · refine (leaving_low w b row vl tier k hk1).mono ?_
    rintro e w' ⟨rfl, rfl⟩
    exact ⟨rfl, Below.refl _ _⟩
  · have HFR := hid (free_no w b m row h hrow)
    have HBL := hid (fun w' (hb : Below w.heap.size w w') => belowC_no w' b row m vl tier (h.below hb h.lt) hrow)
    have hk2 : (0 : Int) < k := by omega
    clear h hrow
    go_enter Try.func53, Try.ntmps53
    go_wp2_with fail
    refine HFR.out.mono ?_
    rintro e w1 ⟨rfl, rfl⟩
    have HB1 := hid (Below.refl w.heap.size w)
    have HBL1 := hid (HBL.out w (Below.refl _ _))
    go_wp2_with fail
    refine HBL1.out.mono ?_
    rintro e w2 ⟨rfl, hb2⟩
    have HB2 := hid (HB1.out.trans (hb2.mono HB1.out.size))
    clear hb2
    go_wp2_with fail
    go_loopw [12, 14] (fun rv nv wr => rv = .int .i64 0 ∧ nv = .int .i64 0 ∧ wr = w2) (fun _ _ _ => 0)
    case atStart => exact ⟨rfl, rfl, rfl⟩
    case round =>
      obtain ⟨rfl, rfl, rfl⟩ := hrel
      go_wp2_with fail
      go_ret2
      exact ⟨rfl, HB2.out⟩

/-- Who has to go of any row. -/
def Mx.leaveI (m : Mx) (row : Int) (l : List Cd) (tier : Nat) (k : Int) : Option (List Cd) := if 0 ≤ row ∧ row < m.r then m.leave row.toNat l tier k else none

def qOf (o : Option (List Cd)) : List Nat := (o.getD []).map Prod.fst

theorem of15_flat (w : World) (b : Nat) (row : Int) (m : Mx) (vl : Value) (l : List Cd) (tier : Nat) (k : Int) (h : MxAt w b m) (hl : RdC w vl l) (hll : l.length ≤ 1000) (ht : tier < 256) (hlb : ∀ x ∈ l, x.1 < 4294967296 ∧ x.2 < 256) :
    Calls Try.prog 28 #[.pointer (some ⟨b, 0, none⟩), .int .i64 row, vl, .int .u8 (tier : Nat), .int .i64 k] w fun e w' => ∃ a c, e = .returned (.tuple #[.slice a (qOf (m.leaveI row l tier k)).length c, .bool (m.leaveI row l tier k).isSome]) ∧ RdV w' (.slice a (qOf (m.leaveI row l tier k)).length c) ((qOf (m.leaveI row l tier k)).map uv) ∧ Below w.heap.size w w' := by
  by_cases hr : 0 ≤ row ∧ row < m.r
  · have e : m.leaveI row l tier k = m.leave row.toNat l tier k := by unfold Mx.leaveI; rw [if_pos hr]
    rw [e]
    have hrow : row = (row.toNat : Nat) := by omega
    have h1 := of15_any w b row.toNat m vl l tier k h (by omega) hl hll ht hlb
    rw [← hrow] at h1
    refine h1.mono ?_
    rintro e' w' ⟨u, rfl, ho, hb⟩
    obtain ⟨a, c, rfl, -, -⟩ := owns_slice ho
    have hql : (qOf (m.leave row.toNat l tier k)).length = ((m.leave row.toNat l tier k).getD []).length := by unfold qOf; rw [List.length_map]
    refine ⟨a, c, by rw [hql], ?_, hb⟩
    have h2 := RdV.of_own ho
    rw [hql]
    unfold qOf
    rw [List.map_map]
    exact h2
  · have e : m.leaveI row l tier k = none := by unfold Mx.leaveI; rw [if_neg hr]
    rw [e]
    have HL := hid (leaving_no w b row m vl tier k h (by omega))
    clear h hl hll ht hlb hr e
    go_enter Try.func28, Try.ntmps28
    go_wp2_with fail
    refine HL.out.mono ?_
    rintro e w1 ⟨rfl, hb⟩
    have HB := hid hb
    have HNU := hid (numbers_any w1 _ [] (RdC.nil w1) (by simp))
    clear hb
    go_wp2_with fail
    refine HNU.out.mono ?_
    rintro e w2 ⟨u, rfl, ho, hb2⟩
    obtain ⟨a, c, rfl, -, -⟩ := owns_slice ho
    have HO := hid (RdV.of_own ho)
    have HB2 := hid (HB.out.trans (hb2.mono HB.out.size))
    clear ho hb2
    go_wp2_with fail
    go_ret2
    exact ⟨a, c, rfl, HO.out, HB2.out⟩

theorem rof15_flat (w : World) (lo : Nat) (G : Geo) (row : Int) (m : Mx) (vl : Value) (l : List Cd) (tier : Nat) (k : Int) (h : RxAt w lo G m) (ho : One m) (hl : RdC w vl l) (hll : l.length ≤ 1000) (ht : tier < 256) (hlb : ∀ x ∈ l, x.1 < 4294967296 ∧ x.2 < 256) :
    Calls Try.prog 29 #[.pointer (some ⟨G.x, 0, none⟩), .int .i64 row, vl, .int .u8 (tier : Nat), .int .i64 k] w fun e w' => ∃ a c, e = .returned (.tuple #[.slice a (qOf (m.leaveI row l tier k)).length c, .bool (m.leaveI row l tier k).isSome]) ∧ RdV w' (.slice a (qOf (m.leaveI row l tier k)).length c) ((qOf (m.leaveI row l tier k)).map uv) ∧ Below w.heap.size w w' := by
  by_cases hr : 0 ≤ row ∧ row < m.r
  · have e : m.leaveI row l tier k = m.leave row.toNat l tier k := by unfold Mx.leaveI; rw [if_pos hr]
    rw [e]
    have hrow : row = (row.toNat : Nat) := by omega
    have h1 := rof15_all w lo G m row.toNat vl l tier k h ho (by omega) hl hll ht hlb
    rw [← hrow] at h1
    refine h1.mono ?_
    rintro e' w' ⟨hb, h2⟩
    cases hv : m.leave row.toNat l tier k with
    | none =>
      rw [hv] at h2
      exact ⟨none, 0, h2, RdV.nil _, hb⟩
    | some q =>
      rw [hv] at h2
      obtain ⟨v, rfl, hov⟩ := h2
      obtain ⟨a, c, rfl, -, -⟩ := owns_slice hov
      have hql : (qOf (some q)).length = q.length := by unfold qOf; rw [List.length_map]; rfl
      refine ⟨a, c, by rw [hql]; rfl, ?_, hb⟩
      rw [hql]
      unfold qOf
      rw [List.map_map]
      exact RdV.of_own hov
  · have e : m.leaveI row l tier k = none := by unfold Mx.leaveI; rw [if_neg hr]
    rw [e]
    refine (rof15_out w lo G m h row (by omega) vl tier k).mono ?_
    rintro e w' ⟨rfl, rfl⟩
    exact ⟨none, 0, rfl, RdV.nil _, Below.refl _ _⟩

def bOf (o : Option (Nat × List Cd)) : Nat := match o with | none => 0 | some p => p.1
def pOf (o : Option (Nat × List Cd)) : List Nat := match o with | none => [] | some p => p.2.map Prod.fst

theorem choose_flat {w : World} {o : Option (Nat × List Cd)} {e : Ending} {w' : World} (h : ChoIs w o e w') : ∃ a c, e = .returned (.tuple #[.agg #[.int .i64 (bOf o : Nat), .slice a (pOf o).length c], .bool o.isSome]) ∧ RdV w' (.slice a (pOf o).length c) ((pOf o).map uv) ∧ Below w.heap.size w w' := by
  cases o with
  | none => exact ⟨none, 0, h.2, RdV.nil _, h.1⟩
  | some p =>
    obtain ⟨hb, u, rfl, ho⟩ := h
    obtain ⟨a, c, rfl, -, -⟩ := owns_slice ho
    have hql : (pOf (some p)).length = p.2.length := by unfold pOf; rw [List.length_map]
    refine ⟨a, c, by rw [hql]; rfl, ?_, hb⟩
    rw [hql]
    unfold pOf
    simp only
    rw [List.map_map]
    exact RdV.of_own ho

theorem rchoose_flat {w : World} {o : Option (Nat × List Cd)} {e : Ending} {w' : World} (h : RChoIs w o e w') : ∃ a c, e = .returned (.tuple #[.int .i64 (bOf o : Nat), .slice a (pOf o).length c, .bool o.isSome]) ∧ RdV w' (.slice a (pOf o).length c) ((pOf o).map uv) ∧ Below w.heap.size w w' := by
  cases o with
  | none => exact ⟨none, 0, h.2, RdV.nil _, h.1⟩
  | some p =>
    obtain ⟨hb, u, rfl, ho⟩ := h
    obtain ⟨a, c, rfl, -, -⟩ := ho.len
    have hql : (pOf (some p)).length = p.2.length := by unfold pOf; rw [List.length_map]
    rw [List.length_map, List.length_map] at ho
    refine ⟨a, c, by rw [hql, List.length_map, List.length_map]; rfl, ?_, hb⟩
    rw [hql]
    exact ho

set_option maxRecDepth 100000 in
set_option maxHeartbeats 4000000 in
theorem choose15_nil (w : World) (vl : Value) (tier : Nat) (K : Int) :
    Calls Try.prog 26 #[.pointer none, vl, .int .u8 (tier : Nat), .int .i64 K] w fun e w' => e = .returned (.tuple #[.agg #[.int .i64 0, .slice none 0 0], .bool false]) ∧ Below w.heap.size w w' := by
  obtain ⟨y0, hy0⟩ : ∃ y, y = w.alloc (.cells #[.int .i64 0, .slice none 0 0] 62) := ⟨_, rfl⟩
  have hb0 : Below w.heap.size w y0 := by rw [hy0]; exact (Below.refl _ _).alloc (Nat.le_refl _) _
  have hg0 : y0.heap[w.heap.size]? = some (.cells #[.int .i64 0, .slice none 0 0] 62 (0, 0)) := by rw [hy0]; exact heap_alloc_new w _
  obtain ⟨pb, hpb⟩ : ∃ p, p = w.heap.size := ⟨_, rfl⟩
  rw [← hpb] at hg0
  have HG := hid hg0
  have HB0 := hid hb0
  have HPB := hid hpb
  have HSZ := hid (size_nil y0)
  clear hb0 hg0
  go_enter Try.func26, Try.ntmps26
  go_upto_region 1 with (fail)
  rw [← hy0, ← hpb]
  clear hy0 hpb
  go_wp2_with fail
  refine HSZ.out.mono ?_
  rintro e w1 ⟨rfl, hb1⟩
  have HB1 := hid (show Below y0.heap.size y0 w1 from by rw [← hb1]; exact Below.refl _ _)
  have g5 := (HB1.out.block _ (Array.getElem?_eq_some_iff.1 HG.out).1).trans HG.out
  have HG5 := hid g5
  have x0 : w1.cell? ⟨pb, 0, none⟩ = some (.int .i64 0) := (cell_of_row _ _ _ _ _ _ g5).trans rfl
  have x1 : w1.cell? ⟨pb, 1, none⟩ = some (.slice none 0 0) := (cell_of_row _ _ _ _ _ _ g5).trans rfl
  have z0 : w1.frozen? ⟨pb, 0, none⟩ = false := frozen_of_row _ _ _ _ _ g5
  have z1 : w1.frozen? ⟨pb, 1, none⟩ = false := frozen_of_row _ _ _ _ _ g5
  clear hb1 g5
  go_wp2_with fail
  go_loopw [12, 13, 14, 24] (fun lv av fv i wr => lv = .slice none 0 0 ∧ av = .int .i64 0 ∧ fv = .bool false ∧ i = .int .i64 0 ∧ wr = w1) (fun _ _ _ i _ => 0)
  case atStart => exact ⟨rfl, rfl, rfl, rfl, rfl⟩
  case round =>
    obtain ⟨rfl, rfl, rfl, rfl, rfl⟩ := hrel
    go_wp2_with fail
    (try simp only [Exit.inBlock, Exit.then]); refine bodyPost_ret (results_cellC rfl _ _ _ pb 62 #[.int .i64 0, .slice none 0 0] (0, 0) _ rfl rfl (setC2 HG5.out) Try.underlying62 (by kernel_rfl)) rfl ?_
    exact ⟨rfl, ((HB0.out.trans (HB1.out.mono HB0.out.size)).setCell (by rw [HPB.out]; simp) _).setCell (by rw [HPB.out]; simp) _⟩

end Go.Proofs.Ytdongghjchnpbaa
