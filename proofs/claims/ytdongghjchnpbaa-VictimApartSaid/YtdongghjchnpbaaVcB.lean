/-
  Layer 15: build: a matrix and the document's, of Stands, and who may have to go, twice.
-/
import Derived.Test.YtdongghjchnpbaaVcK
import Derived.Test.YtdongghjchnpbaaStd
namespace Go.Proofs.Ytdongghjchnpbaa
open Go.RowKit Go.Shelf
set_option linter.unusedVariables false

/-- Both matrices, the program's at the block w.heap.size. -/
structure Both12 (w : World) (lo : Nat) (G : Geo) (r n : Nat) (m : Mx) (wr : World) : Prop where
  at_ : MxAt wr w.heap.size m
  rx : RxAt wr lo G m
  one : One m
  mr : m.r = r
  mn : m.n = n
  bel : Below w.heap.size w wr
  lo1 : w.heap.size < lo

theorem Both12.below {w : World} {lo : Nat} {G : Geo} {r n : Nat} {m : Mx} {wr w' : World} (h : Both12 w lo G r n m wr) (hb : Below wr.heap.size wr w') : Both12 w lo G r n m w' :=
  ⟨h.at_.below hb h.at_.lt, h.rx.below hb (Nat.le_refl _), h.one, h.mr, h.mn, h.bel.trans (hb.mono h.bel.size), h.lo1⟩

/-- Both Puts. -/
theorem Both12.put {w : World} {lo : Nat} {G : Geo} {r n : Nat} {m : Mx} {wr w5 w6 : World} {j : Nat} {row : Int} {l : List Int} (h : Both12 w lo G r n m wr) (hm5 : MxAt w5 w.heap.size (m.putM j row l)) (hk5 : Keeps (fun k => k = w.heap.size) wr w5) (hr6 : RxAt w6 lo G (m.putM j row l)) (hk6 : Keeps (G.own m.r) w5 w6) : Both12 w lo G r n (m.putM j row l) w6 := by
  have hn16 := h.at_.n16
  refine ⟨hm5.block (hk6.block w.heap.size hm5.lt ?_), hr6, h.one.putM hn16, (putM_r _ _ _ _).trans h.mr, (putM_n _ _ _ _).trans h.mn, h.bel.trans ((hk5.below (Nat.le_of_lt h.at_.lt) (fun i hi => by omega)).trans (hk6.below (Nat.le_trans (Nat.le_of_lt h.at_.lt) hk5.size) ?_)), h.lo1⟩
  · rintro ⟨i, hi, e⟩
    have := h.rx.log i hi
    have := h.lo1
    omega
  · rintro i ⟨q, hq, rfl⟩
    have := h.rx.log q hq
    have := h.lo1
    omega

theorem Both12.turned {w : World} {lo : Nat} {G : Geo} {r n : Nat} {m : Mx} {wr w7 : World} {q : Nat} {u v : Bool} (h : Both12 w lo G r n m wr) (hm7 : MxAt w7 w.heap.size (m.turn q u)) (hk7 : Keeps (fun k => k = w.heap.size) wr w7) (hr8 : RxAt (w7.setCell ⟨G.bu, q, none⟩ (.bool v)) lo G (m.turn q u)) (hk8 : Keeps (fun k => k = G.bu) w7 (w7.setCell ⟨G.bu, q, none⟩ (.bool v))) : Both12 w lo G r n (m.turn q u) (w7.setCell ⟨G.bu, q, none⟩ (.bool v)) := by
  have hlo : w.heap.size < G.bu := by have := h.rx.lou; have := h.lo1; omega
  refine ⟨hm7.block (hk8.block w.heap.size hm7.lt (by omega)), hr8, h.one.turn, h.mr, h.mn, h.bel.trans ((hk7.below (Nat.le_of_lt h.at_.lt) (fun i hi => by omega)).trans (hk8.below (Nat.le_trans (Nat.le_of_lt h.at_.lt) hk7.size) (fun i hi => by omega))), h.lo1⟩


theorem RxAt.ty15 {w : World} {lo : Nat} {G : Geo} {m : Mx} (h : RxAt w lo G m) : ∀ k, G.all m.r k → ∃ cs t, w.heap[k]? = some (.cells cs t (0, 0)) ∧ t ∈ [49, 60, 4, 33] := by
  rintro k (rfl | rfl | rfl | ⟨i, hi, rfl⟩)
  · exact ⟨_, _, h.blk, by simp⟩
  · obtain ⟨z, h1, _⟩ := h.rows; exact ⟨_, _, h1, by simp⟩
  · obtain ⟨z, h1, _⟩ := h.ups; exact ⟨_, _, h1, by simp⟩
  · obtain ⟨z, h1, _⟩ := h.cells i hi; exact ⟨_, _, h1, by simp⟩

/-- A row of other things lies elsewhere. -/
theorem RxAt.far15 {w : World} {lo base : Nat} {G : Geo} {m : Mx} {e : TypeId} {size : Nat} {v : Value} {n : Nat} {xs : List Value} (h : RxAt w lo G m) (hv : w.ownsRow base e size v n xs) (he : e ∉ [49, 60, 4, 33]) : ∀ g, v.ownBlock = some g → ¬ G.all m.r g := by
  intro g hg ha
  obtain ⟨cs, t, h1, h2⟩ := h.ty15 g ha
  obtain ⟨cur, h3⟩ := owns_ty hv g hg
  rw [h1] at h3
  simp only [Option.some.injEq, Obj.cells.injEq] at h3
  exact he (h3.2.1 ▸ h2)

theorem Both12.kt {w : World} {lo : Nat} {G : Geo} {r n : Nat} {m : Mx} {wr w' : World} {ts : List TypeId} (h : Both12 w lo G r n m wr) (hk : KT ts lo wr w') (h1 : ∀ t ∈ [49, 60, 4, 33, 89], t ∉ ts) : Both12 w lo G r n m w' :=
  ⟨h.at_.block ((hk.block h.at_.blk (h1 _ (by simp))).trans h.at_.blk.symm), h.rx.to (fun k ha => by
    obtain ⟨cs, t, h2, h3⟩ := h.rx.ty15 k ha
    rw [hk.block h2 (h1 t (by simp only [List.mem_cons, List.not_mem_nil, or_false] at h3; rcases h3 with rfl | rfl | rfl | rfl <;> simp)), h2]), h.one, h.mr, h.mn, h.bel.trans (hk.below.mono (Nat.le_of_lt h.lo1)), h.lo1⟩

/-- Both matrices, and who may have to go, twice. -/
structure Both15 (w : World) (lo : Nat) (G : Geo) (r n : Nat) (S : Nat → St15) (m : Mx) (k : Nat) (va vb : Value) (wr : World) : Prop where
  b : Both12 w lo G r n m wr
  la : wr.ownsRow lo 80 2 va (cands S k).length (ccels (cands S k))
  lb : wr.ownsRow lo 104 2 vb (cands S k).length (ccels (cands S k))

theorem Both15.below {w : World} {lo : Nat} {G : Geo} {r n : Nat} {S : Nat → St15} {m : Mx} {k : Nat} {va vb : Value} {wr w' : World} (h : Both15 w lo G r n S m k va vb wr) (hb : Below wr.heap.size wr w') : Both15 w lo G r n S m k va vb w' :=
  ⟨h.b.below hb, owns_below h.la hb, owns_below h.lb hb⟩

theorem Both15.kept {w : World} {lo : Nat} {G : Geo} {r n : Nat} {S : Nat → St15} {m m' : Mx} {k : Nat} {va vb : Value} {wr w5 w6 : World} {T : Nat → Prop} (h : Both15 w lo G r n S m k va vb wr) (hk5 : Keeps (fun k => k = w.heap.size) wr w5) (hk6 : Keeps T w5 w6) (hT : ∀ q, T q → G.all m.r q) (hb : Both12 w lo G r n m' w6) : Both15 w lo G r n S m' k va vb w6 := by
  have hlo := h.b.lo1
  have key : ∀ {e : TypeId} {v : Value} {xs : List Value} {c : Nat}, wr.ownsRow lo e 2 v c xs → e ∉ [49, 60, 4, 33] → w6.ownsRow lo e 2 v c xs := fun hv he => owns_by hv fun q hq => by
    have h1 := World.ownsRow.lt hv q hq
    have h2 := h.b.rx.far15 hv he q hq
    rw [hk6.block q (Nat.lt_of_lt_of_le h1.2 hk5.size) (fun ht => h2 (hT q ht)), hk5.block q h1.2 (by omega)]
  exact ⟨hb, key h.la (by decide), key h.lb (by decide)⟩

theorem Both15.skip {w : World} {lo : Nat} {G : Geo} {r n : Nat} {S : Nat → St15} {m : Mx} {k : Nat} {va vb : Value} {wr : World} (h : Both15 w lo G r n S m k va vb wr) (hq : (S k).q = true) : Both15 w lo G r n S m (k + 1) va vb wr := by
  have e : cands S (k + 1) = cands S k := by rw [cands_succ, hq]; simp
  exact ⟨h.b, by rw [e]; exact h.la, by rw [e]; exact h.lb⟩

theorem Both15.add {w : World} {lo : Nat} {G : Geo} {r n : Nat} {S : Nat → St15} {m : Mx} {k : Nat} {va vb va' vb' : Value} {wr wA wB : World} (h : Both15 w lo G r n S m k va vb wr) (hq : (S k).q = false) (hkA : KT [80] lo wr wA) (hA : wA.ownsRow lo 80 2 va' ((cands S k).length + 1) (ccels (cands S k) ++ [.int .u32 ((k + 1 : Nat) : Int), .int .u8 ((S k).t : Nat)])) (hkB : KT [104] lo wA wB) (hB : wB.ownsRow lo 104 2 vb' ((cands S k).length + 1) (ccels (cands S k) ++ [.int .u32 ((k + 1 : Nat) : Int), .int .u8 ((S k).t : Nat)])) : Both15 w lo G r n S m (k + 1) va' vb' wB := by
  have e : cands S (k + 1) = cands S k ++ [(k + 1, (S k).t)] := by rw [cands_succ, hq]; simp
  refine ⟨(h.b.kt hkA (by decide)).kt hkB (by decide), ?_, ?_⟩
  · rw [e, ccels_snoc, List.length_append, List.length_singleton]; exact owns_kt hA hkB (by decide)
  · rw [e, ccels_snoc, List.length_append, List.length_singleton]; exact hB

theorem results_tmp4 {fn : Func} {t u v q : Tmp} (h : fn.results = #[.tmp t, .tmp u, .tmp v, .tmp q]) (tmps : Array Value) (P : Program) (w : World) :
    (results fn tmps).run P w = .ok (.tuple #[tmps.getD t undef, tmps.getD u undef, tmps.getD v undef, tmps.getD q undef]) w := by
  simp [results, h]

def Both15.fst {w : World} {lo : Nat} {G : Geo} {r n : Nat} {S : Nat → St15} {m : Mx} {k : Nat} {va vb : Value} {wr : World} (_ : Both15 w lo G r n S m k va vb wr) : Value := va
def Both15.snd {w : World} {lo : Nat} {G : Geo} {r n : Nat} {S : Nat → St15} {m : Mx} {k : Nat} {va vb : Value} {wr : World} (_ : Both15 w lo G r n S m k va vb wr) : Value := vb

def Build15 (w : World) (r n : Nat) (S : Nat → St15) (len : Nat) (e : Ending) (w' : World) : Prop :=
  ∃ (lo : Nat) (G : Geo) (m : Mx) (va vb : Value), e = .returned (.tuple #[.pointer (some ⟨w.heap.size, 0, none⟩), .pointer (some ⟨G.x, 0, none⟩), va, vb]) ∧ Both15 w lo G r n S m (min len 40) va vb w'

set_option maxRecDepth 100000 in
set_option maxHeartbeats 8000000 in
theorem build15_any (w : World) (rr nn dn : Nat) (hrr : rr < 256) (hnn : nn < 256) (hdn : dn < 65536) (a : Option Addr) (len cap : Nat) (S : Nat → St15) (hlc : len ≤ cap) (hcm : cap ≤ 9223372036854775807) (hs : Std15 w a len S) :
    Calls Try.prog 25 #[.int .u8 (rr : Nat), .int .u8 (nn : Nat), .slice a len cap, .int .u16 (dn : Nat)] w (Build15 w (1 + rr % 8) (1 + nn % 16) S len) := by
  have HS := hid hs
  clear hs
  obtain ⟨r, hr⟩ : ∃ r, r = 1 + rr % 8 := ⟨_, rfl⟩
  obtain ⟨n, hn⟩ : ∃ n, n = 1 + nn % 16 := ⟨_, rfl⟩
  obtain ⟨r7, hr7⟩ : ∃ q, q = rr % 8 := ⟨_, rfl⟩
  obtain ⟨n7, hn7⟩ : ∃ q, q = nn % 16 := ⟨_, rfl⟩
  have e1 : (rr : Int) % 8 = (r7 : Int) := by omega
  have e2 : (rr : Int).tmod 8 = (r7 : Int) := by rw [Int.tmod_eq_emod_of_nonneg (by omega)]; exact e1
  have e3 : 1 + (r7 : Int) = (r : Int) := by omega
  have f1 : (nn : Int) % 16 = (n7 : Int) := by omega
  have f2 : (nn : Int).tmod 16 = (n7 : Int) := by rw [Int.tmod_eq_emod_of_nonneg (by omega)]; exact f1
  have f3 : 1 + (n7 : Int) = (n : Int) := by omega
  have hr1 : 1 ≤ r := by omega
  have hr8 : r ≤ 8 := by omega
  have hn1 : 1 ≤ n := by omega
  have hn16 : n ≤ 16 := by omega
  have b1 : (r7 : Int) < 8 := by omega
  have b2 : (n7 : Int) < 16 := by omega
  have b3 : (rr : Int) < 256 := by omega
  have b4 : (nn : Int) < 256 := by omega
  rw [← hr, ← hn]
  clear hr hn hr7 hn7 hrr hnn hdn
  go_enter Try.func25, Try.ntmps25
  go_wp2_with fail
  refine (new_yes w r n hr1 hr8 hn1 hn16).mono ?_
  rintro e w1 ⟨rfl, hm1, hb1⟩
  have hl1 := hm1.lt
  have HM1 := hid hm1
  have HB1 := hid hb1
  clear hm1 hb1
  go_wp2_with fail
  refine (rnew_yes w1 r n hr1 hr8 hn1 hn16).mono ?_
  rintro e w2 ⟨G, rfl, hx2, hb2⟩
  obtain ⟨lo, hlo⟩ : ∃ lo, lo = w1.heap.size := ⟨_, rfl⟩
  have HX := hid (show Both15 w lo G r n S (mx0 r n) 0 (.slice none 0 0) (.slice none 0 0) w2 from ⟨⟨HM1.out.below hb2 hl1, by rw [hlo]; exact hx2, one0 r n, rfl, rfl, HB1.out.trans (hb2.mono (by omega)), by omega⟩, World.ownsRow_nil _ _ _ _, World.ownsRow_nil _ _ _ _⟩)
  have hn16i : (n : Int) ≤ 16 := by omega
  have hn1i : (1 : Int) ≤ (n : Int) := by omega
  have hr8i : (r : Int) ≤ 8 := by omega
  have hr1i : (1 : Int) ≤ (r : Int) := by omega
  clear hx2 hb2 hlo e1 e2 e3 f1 f2 f3 b1 b2 b3 b4 hn16 hn1 hr8 hr1
  go_wp2_with fail
  go_loopw [18, 19, 47] (fun va vb i wr => ∃ (k : Nat) (m : Mx), k ≤ len ∧ k ≤ 40 ∧ i = .int .i64 k ∧ Both15 w lo G r n S m k va vb wr) (fun _ _ i _ => len - (intOf i).toNat)
  case atStart => exact ⟨0, _, Nat.zero_le _, by decide, rfl, HX.out⟩
  case round =>
    obtain ⟨k, m, hk, hk40, rfl, hX⟩ := hrel
    obtain ⟨va, hva⟩ : ∃ v, v = hX.fst := ⟨_, rfl⟩
    obtain ⟨vb, hvb⟩ : ∃ v, v = hX.snd := ⟨_, rfl⟩
    unfold Both15.fst at hva
    unfold Both15.snd at hvb
    subst hva
    subst hvb
    have HX := hid hX
    have HK40 := hid hk40
    clear hX hk40
    by_cases hlt : k < len
    · have hki : (k : Int) < (len : Int) := by omega
      obtain ⟨sb, so, rfl, hsb, hrg, hd8, hn65, ht8⟩ := (HS.out.below (show Below w.heap.size w wr from HX.out.b.bel)) k hlt
      obtain ⟨d, hdd⟩ : ∃ d, d = (S k).d := ⟨_, rfl⟩
      obtain ⟨sn, hsn⟩ : ∃ d, d = (S k).n := ⟨_, rfl⟩
      obtain ⟨st, hst⟩ : ∃ d, d = (S k).t := ⟨_, rfl⟩
      obtain ⟨sq, hsq⟩ : ∃ d, d = (S k).q := ⟨_, rfl⟩
      rw [← hdd, ← hsn, ← hst, ← hsq] at hrg
      rw [← hdd] at hd8
      rw [← hst] at ht8
      have HSQ := hid hsq
      have HST := hid hst
      have ht8i : (st : Int) < 256 := by omega
      have HRG := hid hrg
      have hd8i : (d : Int) < 256 := by omega
      clear hrg hd8 hn65 hdd hsn hst hsq ht8
      by_cases h40 : k < 40
      · have h40i : (k : Int) < 40 := by omega
        clear h40
        go_upto_region 9 with (first
          | (refine wpList_load_mid rfl 74 (.tmp 50) rfl sb (so + k * 4) rfl _ _ HRG.out Try.underlying74 rfl (by rw [size_st15]; rfl) ?_)
          | (refine st15_fresh rfl (.tmp 21) (.tmp 51) rfl wr (s15cells d sn st sq) rfl rfl rfl (by simp [Value.oneCell']) ?_; intro wo hgo hbo; have HGO := hid hgo; have HBO := hid hbo; clear hgo hbo)
          | fail)
        obtain ⟨gs, hgs⟩ : ∃ g, g = wr.heap.size := ⟨_, rfl⟩
        rw [← hgs] at HGO
        rw [← hgs]
        have HGS := hid hgs
        have HXO := hid (HX.out.below HBO.out)
        have hso : gs < wo.heap.size := (Array.getElem?_eq_some_iff.1 HGO.out).1
        have hs0 := HBO.out.size
        have g0 : wo.cell? ⟨gs, 1, none⟩ = some (.int .u16 (sn : Nat)) := (cell_of_row _ _ _ _ _ _ HGO.out).trans rfl
        have HSR := hid (show w.heap.size < gs ∧ gs < wo.heap.size from ⟨by rw [hgs]; exact HX.out.b.at_.lt, hso⟩)
        have HGL := hid (show ∀ q, G.all m.r q → q < gs from fun q hq => by rw [hgs]; exact HX.out.b.rx.lt q hq)
        clear HX HRG hgs
        go_wp2_with fail
        go_loopw [22, 55] (fun v i wr => ∃ (q : Nat) (l : List Nat), q ≤ n ∧ i = .int .i64 q ∧ l.length ≤ q ∧ wr.ownsRow wo.heap.size 3 1 v l.length (l.map iv) ∧ Below wo.heap.size wo wr) (fun _ i _ => n - (intOf i).toNat)
        case atStart => exact ⟨0, [], Nat.zero_le _, rfl, Nat.le_refl _, World.ownsRow_nil _ _ _ _, Below.refl _ _⟩
        case round =>
          obtain ⟨q, l, hq, rfl, hlq, hv, hB⟩ := hrel
          have HV := hid hv
          have HB := hid hB
          have hs2 := hB.size
          obtain ⟨av, cv, rfl, hcv1, hcv2⟩ := owns_slice hv
          have g1 : wr.cell? ⟨gs, 1, none⟩ = some (.int .u16 (sn : Nat)) := (hB.cell (p := ⟨gs, 1, none⟩) hso).trans g0
          have g2 : wr.cell? ⟨gs, 0, none⟩ = some (.int .u8 (d : Nat)) := (hB.cell (p := ⟨gs, 0, none⟩) hso).trans ((cell_of_row _ _ _ _ _ _ HGO.out).trans rfl)
          clear hv hB
          by_cases hql : q < n
          · have hqi : (q : Int) < (n : Int) := by omega
            have hq16 : (q : Int) < 16 := by omega
            have hsrc := hid (SrcC.lit wr #[.int .i64 (q : Nat)] 3 1 [iv q] rfl)
            have hof := hid (owns_below HV.out ((Below.refl _ _).alloc (Nat.le_refl _) (.cells #[.int .i64 (q : Nat)] 3)))
            generalize hll : l.length = ll at *
            have HLL := hid hll
            clear hll
            go_wp2_with (at_builtin; (refine appsw (by rfl) 34 3 (.tmp 64) (.tmp 66) rfl wo.heap.size 1 8 _ Try.underlying34 Try.infoInt rfl (by decide) _ _ ll 1 (ll + 1) _ _ rfl rfl hof.out hsrc.out rfl (by intro y hy; rw [List.mem_singleton] at hy; subst hy; rfl) rfl (by omega) (by omega) (by simp; omega) ?_); intro ad9 cp9 wA hoA hgA; have HOA := hid hoA; have HGA := hid hgA; clear hoA hgA)
            · have hbA : Below wo.heap.size wo wA := (HB.out.alloc (by omega) (.cells #[.int .i64 (q : Nat)] 3)).grown HGA.out (by simp; omega) (fun g hg => (World.ownsRow.lt HV.out g hg).1)
              have HBA := hid hbA
              clear hbA
              go_roundw
              case rel => exact ⟨q + 1, l ++ [q], by omega, by go_num, by rw [List.length_append, HLL.out]; simp; omega, by rw [List.length_append, HLL.out, List.map_append]; exact HOA.out, HBA.out⟩
              case measure => simp [intOf]; omega
            · go_roundw
              case rel => exact ⟨q + 1, l, by omega, by go_num, by rw [HLL.out]; omega, by rw [HLL.out]; exact HV.out, HB.out⟩
              case measure => simp [intOf]; omega
          · have hqi : ¬ (q : Int) < (n : Int) := by omega
            have HX := hid (HXO.out.below HB.out)
            have HRD := hid (show RdV wr (.slice av l.length cv) ((l.map Int.ofNat).map iw) by rw [iv_map]; exact RdV.of_own HV.out)
            have HAV := hid (show ∀ g o, av = some ⟨g, o, none⟩ → wo.heap.size ≤ g ∧ g < wr.heap.size from fun g o e => by
              subst e
              rcases owns_shape HV.out with ⟨h1, _⟩ | ⟨g', c', h1, h2, h3, _⟩
              · cases h1
              · simp only [Value.slice.injEq, Option.some.injEq, Addr.mk.injEq] at h1
                omega)
            obtain ⟨z, hz⟩ : ∃ z, z = d % r := ⟨_, rfl⟩
            have z1 : (d : Int) % (r : Int) = (z : Int) := by rw [hz]; exact (Int.natCast_emod d r).symm
            have z2 : (d : Int).tmod (r : Int) = (z : Int) := by rw [Int.tmod_eq_emod_of_nonneg (by omega)]; exact z1
            have z3 : (z : Int) < (r : Int) := by have := Nat.mod_lt d (show 0 < r by omega); omega
            have z4 : IntKind.u32.wrap ((k : Int) + 1) = ((k + 1 : Nat) : Int) := by rw [IntKind.wrap_u32]; omega
            have z5 : ((r : Int) == 0) = false := by rw [beq_eq_false_iff_ne]; omega
            have z6 : (1 : Int) ≤ (r : Int) := by omega
            have z7 : (r : Int) ≤ 8 := by omega
            have HP := hid (put_all wr w.heap.size (k + 1) (z : Nat) _ (l.map Int.ofNat) m HX.out.b.at_ HRD.out (by
              rintro g o n' c' e
              simp only [Value.slice.injEq] at e
              have := HAV.out g o e.1
              have := HSR.out
              omega) (by omega))
            clear hz hql
            go_wp2_with fail
            refine HP.out.mono ?_
            rintro e w5 ⟨rfl, hm5, hk5⟩
            have hs5 := hk5.size
            have HM5 := hid hm5
            have HK5 := hid hk5
            have HR5 := hid (HX.out.b.rx.keeps hk5 (fun k hk e => by have := HX.out.b.rx.low k hk; have := HX.out.b.lo1; omega))
            have h2' : w5.cell? ⟨gs, 0, none⟩ = some (.int .u8 (d : Nat)) := (hk5.cell (p := ⟨gs, 0, none⟩) (show gs < wr.heap.size by have := HSR.out; omega) (show ¬ gs = w.heap.size by have := HSR.out; omega)).trans g2
            have HRD5 := hid (HRD.out.blk hk5 (fun g o e => by have := HAV.out g o e; have := HSR.out; omega))
            have HP5 := hid (rput_all w5 lo G (k + 1) (z : Nat) _ (l.map Int.ofNat) m HR5.out HRD5.out (by
              rintro g o n' c' e ⟨i, hi, rfl⟩
              simp only [Value.slice.injEq] at e
              have h1 := HAV.out _ o e.1
              have h2 := HXO.out.b.rx.lt (G.g i) (.inr (.inr (.inr ⟨i, hi, rfl⟩)))
              omega) (by omega))
            clear hm5 hk5 g1 g2
            go_wp2_with fail
            refine HP5.out.mono ?_
            rintro e w6 ⟨rfl, hr6, hk6⟩
            have HN := hid (HX.out.kept HK5.out hk6 (fun q hq => .inr (.inr (.inr hq))) (HX.out.b.put HM5.out HK5.out hr6 hk6))
            have hbx6 : w6.heap[gs]? = some (.cells (s15cells d sn st sq) 74 (0, 0)) := by
              have h1 := (HB.out.block gs (by have := HSR.out; omega)).trans HGO.out
              have h2 := (HK5.out.block gs (by have := HSR.out; have := HB.out.size; omega) (by have := HSR.out; omega)).trans h1
              exact (hk6.block gs (by have := HSR.out; have := HB.out.size; have := HK5.out.size; omega) (fun hq => by have := HGL.out gs (.inr (.inr (.inr hq))); omega)).trans h2
            have HBX6 := hid hbx6
            have q2 : w6.cell? ⟨gs, 2, none⟩ = some (.int .u8 (st : Nat)) := (cell_of_row _ _ _ _ _ _ hbx6).trans rfl
            have q3 : w6.cell? ⟨gs, 3, none⟩ = some (.bool sq) := (cell_of_row _ _ _ _ _ _ hbx6).trans rfl
            clear hr6 hk6 hbx6 h2'
            cases sq with
            | true =>
              go_wp2_with fail
              go_roundw
              case rel => exact ⟨k + 1, _, by omega, by omega, by go_num, HN.out.skip HSQ.out.symm⟩
              case measure => simp [intOf]; omega
            | false =>
              obtain ⟨cl, hcl⟩ : ∃ c, c = (cands S k).length := ⟨_, rfl⟩
              have hcl9 : cl ≤ 40 := by rw [hcl]; have := cands_len S k; omega
              have HCL := hid hcl
              have hla := HN.out.la
              have hlb := HN.out.lb
              have hlo6 := HN.out.b.rx.lt _ (.inl rfl)
              have hlo7 := HN.out.b.rx.low _ (.inl rfl)
              rw [← hcl] at hla hlb
              have hsrc := hid (SrcC.lit w6 #[.int .u32 ((k + 1 : Nat) : Int), .int .u8 (st : Nat)] 80 1 [.int .u32 ((k + 1 : Nat) : Int), .int .u8 (st : Nat)] rfl)
              have hof := hid (owns_below hla ((Below.refl _ _).alloc (Nat.le_refl _) (.cells #[.int .u32 ((k + 1 : Nat) : Int), .int .u8 (st : Nat)] 80)))
              have HLB := hid hlb
              have hszA : (w6.alloc (.cells #[.int .u32 ((k + 1 : Nat) : Int), .int .u8 (st : Nat)] 80)).heap.size = w6.heap.size + 1 := by simp
              have HZA := hid hszA
              have hlo8 := hid (show lo ≤ w6.heap.size by omega)
              clear hla hlb hcl hszA hlo6 hlo7
              go_upto_region 21 with (first
                | (at_builtin; (refine appsw (by rfl) 56 80 (.tmp 94) (.tmp 101) rfl lo 2 8 _ Try.underlying56 infoCand rfl (by decide) _ _ cl 1 (cl + 1) _ _ rfl rfl hof.out hsrc.out rfl (by intro y hy; simp only [List.mem_cons, List.not_mem_nil, or_false] at hy; rcases hy with rfl | rfl <;> rfl) rfl (by omega) (by omega) (by have := hlo8.out; simp; omega) ?_); intro ad9 cp9 wA hoA hgA; have HOA := hid hoA; have HKA := hid ((KT.of_below ((Below.refl _ _).alloc (Nat.le_refl _) _) hlo8.out).trans (own_grown15 hof.out hgA (by have := hlo8.out; simp; omega))); clear hoA hgA)
                | fail)
              have hbxA := HKA.out.block HBX6.out (by decide)
              have q4 : wA.cell? ⟨gs, 2, none⟩ = some (.int .u8 (st : Nat)) := (cell_of_row _ _ _ _ _ _ hbxA).trans rfl
              have hlb2 := owns_kt HLB.out HKA.out (by decide)
              have hsrc2 := hid (SrcC.lit wA #[.int .u32 ((k + 1 : Nat) : Int), .int .u8 (st : Nat)] 104 1 [.int .u32 ((k + 1 : Nat) : Int), .int .u8 (st : Nat)] rfl)
              have hof2 := hid (owns_below hlb2 ((Below.refl _ _).alloc (Nat.le_refl _) (.cells #[.int .u32 ((k + 1 : Nat) : Int), .int .u8 (st : Nat)] 104)))
              have hszB : (wA.alloc (.cells #[.int .u32 ((k + 1 : Nat) : Int), .int .u8 (st : Nat)] 104)).heap.size = wA.heap.size + 1 := by simp
              have HZB := hid hszB
              have hlo9 := hid (show lo ≤ wA.heap.size from Nat.le_trans hlo8.out HKA.out.size)
              clear hbxA hlb2 hszB q2 q3
              go_wp2_with (first
                | (at_builtin; (refine appsw (by rfl) 57 104 (.tmp 103) (.tmp 110) rfl lo 2 8 _ Try.underlying57 infoRCand rfl (by decide) _ _ cl 1 (cl + 1) _ _ rfl rfl hof2.out hsrc2.out rfl (by intro y hy; simp only [List.mem_cons, List.not_mem_nil, or_false] at hy; rcases hy with rfl | rfl <;> rfl) rfl (by omega) (by omega) (by have := hlo9.out; simp; omega) ?_); intro ad8 cp8 wB hoB hgB; have HOB := hid hoB; have HKB := hid ((KT.of_below ((Below.refl _ _).alloc (Nat.le_refl _) _) hlo9.out).trans (own_grown15 hof2.out hgB (by have := hlo9.out; simp; omega))); clear hoB hgB)
                | fail)
              go_roundw
              case rel => exact ⟨k + 1, _, by omega, by omega, by go_num, HN.out.add HSQ.out.symm HKA.out (by rw [← HST.out, ← HCL.out]; exact HOA.out) HKB.out (by rw [← HST.out, ← HCL.out]; exact HOB.out)⟩
              case measure => simp [intOf]; omega
      · have h40i : ¬ (k : Int) < 40 := by omega
        have h40j : (40 : Int) ≤ (k : Int) := by omega
        have HKE := hid (show min len 40 = k by have := HK40.out; omega)
        clear h40
        go_upto_region 9 with (first
          | (refine wpList_load_mid rfl 74 (.tmp 50) rfl sb (so + k * 4) rfl _ _ HRG.out Try.underlying74 rfl (by rw [size_st15]; rfl) ?_)
          | (refine st15_fresh rfl (.tmp 21) (.tmp 51) rfl wr (s15cells d sn st sq) rfl rfl rfl (by simp [Value.oneCell']) ?_; intro wo hgo hbo; have HGO := hid hgo; have HBO := hid hbo; clear hgo hbo)
          | fail)
        have HX2 := hid (HX.out.below HBO.out)
        clear HX HRG
        have HX := hid HX2.out
        clear HX2
        go_wp2_with fail
        go_loopw [114] (fun i wr => ∃ (q : Nat) (m : Mx), q ≤ n ∧ i = .int .i64 q ∧ Both15 w lo G r n S m k va vb wr) (fun i _ => n - (intOf i).toNat)
        case atStart => exact ⟨0, _, Nat.zero_le _, rfl, HX.out⟩
        case round =>
          obtain ⟨q, m, hq, rfl, hX⟩ := hrel
          have HX := hid hX
          clear hX
          by_cases hql : q < n
          · have hqi : (q : Int) < (n : Int) := by omega
            have hq16 : (q : Int) < 16 := by omega
            have hqm : q < m.n := by have := HX.out.b.mn; omega
            have HUP := hid (up_yes wr w.heap.size m q false HX.out.b.at_ hqm)
            go_wp2_with fail
            · refine HUP.out.mono ?_
              rintro e w7 ⟨rfl, hm7, hk7⟩
              have hr7 := HX.out.b.rx.keeps hk7 (fun k hk e => by have := HX.out.b.rx.low k hk; have := HX.out.b.lo1; omega)
              have hs7 := hk7.size
              have HM7 := hid hm7
              have HK7 := hid hk7
              have HR7 := hid hr7
              have c1 := hr7.c1
              rw [HX.out.b.mn] at c1
              have hfz := hr7.upf q
              have hcu := hr7.up q hqm
              have hcum := hr7.cum
              have hcuc := hr7.cur
              rw [HX.out.b.mn] at hcuc
              have HT := hid (hr7.turn q false hqm)
              have HK8 := hid (kset12 w7 G.bu q (.bool false))
              clear hm7 hk7 hr7
              go_wp2_with fail
              go_roundw
              case rel => exact ⟨q + 1, m.turn q (!false), by omega, by go_num, HX.out.kept HK7.out HK8.out (fun q hq => .inr (.inr (.inl hq))) (HX.out.b.turned HM7.out HK7.out HT.out HK8.out)⟩
              case measure => simp [intOf]; omega
            · go_roundw
              case rel => exact ⟨q + 1, m, by omega, by go_num, HX.out⟩
              case measure => simp [intOf]; omega
          · have hqi : ¬ (q : Int) < (n : Int) := by omega
            clear hql
            go_wp2
            (try simp only [Exit.inBlock, Exit.then]); refine bodyPost_ret (results_tmp4 rfl _ _ _) rfl ?_
            exact ⟨_, _, _, _, _, rfl, by rw [HKE.out]; exact HX.out⟩
    · have hki : ¬ (k : Int) < (len : Int) := by omega
      have HKE := hid (show min len 40 = k by have := HK40.out; omega)
      clear hlt
      go_wp2_with fail
      go_loopw [114] (fun i wr => ∃ (q : Nat) (m : Mx), q ≤ n ∧ i = .int .i64 q ∧ Both15 w lo G r n S m k va vb wr) (fun i _ => n - (intOf i).toNat)
      case atStart => exact ⟨0, _, Nat.zero_le _, rfl, HX.out⟩
      case round =>
        obtain ⟨q, m, hq, rfl, hX⟩ := hrel
        have HX := hid hX
        clear hX
        by_cases hql : q < n
        · have hqi : (q : Int) < (n : Int) := by omega
          have hq16 : (q : Int) < 16 := by omega
          have hqm : q < m.n := by have := HX.out.b.mn; omega
          have HUP := hid (up_yes wr w.heap.size m q false HX.out.b.at_ hqm)
          go_wp2_with fail
          · refine HUP.out.mono ?_
            rintro e w7 ⟨rfl, hm7, hk7⟩
            have hr7 := HX.out.b.rx.keeps hk7 (fun k hk e => by have := HX.out.b.rx.low k hk; have := HX.out.b.lo1; omega)
            have hs7 := hk7.size
            have HM7 := hid hm7
            have HK7 := hid hk7
            have HR7 := hid hr7
            have c1 := hr7.c1
            rw [HX.out.b.mn] at c1
            have hfz := hr7.upf q
            have hcu := hr7.up q hqm
            have hcum := hr7.cum
            have hcuc := hr7.cur
            rw [HX.out.b.mn] at hcuc
            have HT := hid (hr7.turn q false hqm)
            have HK8 := hid (kset12 w7 G.bu q (.bool false))
            clear hm7 hk7 hr7
            go_wp2_with fail
            go_roundw
            case rel => exact ⟨q + 1, m.turn q (!false), by omega, by go_num, HX.out.kept HK7.out HK8.out (fun q hq => .inr (.inr (.inl hq))) (HX.out.b.turned HM7.out HK7.out HT.out HK8.out)⟩
            case measure => simp [intOf]; omega
          · go_roundw
            case rel => exact ⟨q + 1, m, by omega, by go_num, HX.out⟩
            case measure => simp [intOf]; omega
        · have hqi : ¬ (q : Int) < (n : Int) := by omega
          clear hql
          go_wp2
          (try simp only [Exit.inBlock, Exit.then]); refine bodyPost_ret (results_tmp4 rfl _ _ _) rfl ?_
          exact ⟨_, _, _, _, _, rfl, by rw [HKE.out]; exact HX.out⟩

end Go.Proofs.Ytdongghjchnpbaa
