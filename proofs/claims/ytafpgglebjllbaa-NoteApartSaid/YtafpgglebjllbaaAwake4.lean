/-
  The document's examples of layer 4.
-/
import Derived.Test.YtafpgglebjllbaaNoteY
import Derived.Test.YtafpgglebjllbaaNoteYNP
import Derived.Test.YtafpgglebjllbaaNoteG
import Derived.Test.YtafpgglebjllbaaNoteGN
import Derived.Test.YtafpgglebjllbaaSame
namespace Go.Proofs.Ytafpgglebjllbaa.Note

/-- Bytes that are right, but another thing's. -/
theorem Q.other {t : List UInt8} {x : Q} {e : Int} {tag : Nat} {ns : List Nat} {b : Option (List UInt8)} (h : Ans Q.ok Q.enc Q.zero (Knot.knot t) x e) (hl : t.length ≤ 2048) (ht : t = Note.enc tag ns b) (hn : tag ≠ 2) (htl : tag < 1000) : e = 4 := by
  have h1 := Knot.uerr_knot t hl
  have h2 := Knot.utext_knot t hl
  rcases h with ⟨a1, _⟩ | ⟨_, _, a3, _⟩ | ⟨_, _, _, a4⟩
  · exact absurd h1 a1
  · rw [h2, ht] at a3
    exact absurd (tag_apart (by omega) (by omega) a3) hn
  · exact a4

def beat : N := ⟨1, 0, 3, 0, 9, 0, 0, 0, 0, 0, 0, 0, []⟩
theorem beat_wf : beat.wf := by unfold N.wf beat; simp
theorem beat_right : beat.right = true := by decide
theorem beat_length : (Knot.knot beat.enc).length = 20 := by decide +kernel

end Go.Proofs.Ytafpgglebjllbaa.Note
namespace Go.Proofs.Ytafpgglebjllbaa
open Go.RowKit

set_option maxRecDepth 100000 in
set_option maxHeartbeats 4000000 in
theorem awake4_any (w : World) :
    Calls Try.prog 9 #[] w fun e w' => e = .returned (.bool true) ∧ Below w.heap.size w w' := by
  have H := hid (note_yes Note.beat none 0 0 rfl w Note.beat_wf (Rd.nil w) (fun k hk => by cases hk) Note.beat_right)
  go_enter Try.func9, Try.ntmps9
  go_wp2_with fail
  refine H.out.mono ?_
  rintro e w1 ⟨kv, rfl, ho1, hb1⟩
  have hlen := hid Note.beat_length
  have HO1 := hid ho1
  obtain ⟨ka, kc, ek, _⟩ := ho1.rd
  rw [hlen.out] at ek
  subst ek
  clear ho1
  go_wp2_with fail
  refine (readrequest_any _ (Knot.knot Note.beat.enc) w1 HO1.out.rd (by rw [hlen.out]; omega)).mono ?_
  rintro e w2 ⟨x, ec, rfl, hans, hxw, hb2⟩
  have he : ec = 4 := Note.Q.other hans (Note.N.enc_length Note.beat Note.beat_right) rfl (by omega) (by omega)
  subst he
  have HA := hid (heap_alloc_new w2 (.cells #[.int .u8 0, .int .u32 0, .int .u8 0, .int .u8 0, .int .i64 0, .int .i64 0, .int .u32 0] 48))
  have hB2 := hb1.trans (hb2.mono hb1.size)
  have hs2 := hB2.size
  clear hans hxw hb2 hb1
  go_wp2_with (first | (refine store_st rfl 48 (.tmp 3) (.tmp 13) rfl w2.heap.size #[.int .u8 (x.cl : Int), .int .u32 (x.s : Int), .int .u8 (x.k : Int), .int .u8 (x.t : Int), .int .i64 x.kk, .int .i64 x.w, .int .u32 (x.j : Int)] rfl rfl #[.int .u8 0, .int .u32 0, .int .u8 0, .int .u8 0, .int .i64 0, .int .i64 0, .int .u32 0] 7 HA.out size_request rfl rfl (by simp [Value.oneCell']) ?_) | fail)
  go_ret
  exact ⟨rfl, (hB2.alloc hs2 _).trans (setRow_below _ hs2)⟩

end Go.Proofs.Ytafpgglebjllbaa
