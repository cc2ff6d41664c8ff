/- A sender, its copy and the document's. -/
import Derived.Test.YtkpnmcchahhbdaaZT
namespace Go.Proofs.Ytkpnmcchahhbdaa
open Go Go.RowKit
set_option maxRecDepth 20000
/-- How the three stand while the first one is played with: the copy's blocks lie from lo on, below hi. -/
structure Tc (B lo hi : Nat) (w0 w : World) (b : Nat) (v : Value) (b' : Nat) (v' : Value) (c : Nat) (vc : Value) (win last : Int) (k : Nat) (ds : List ByteArray) (kc : Nat) (dc pre ps : List ByteArray) : Prop where
  tw : Tw B w0 w b v b' v' win last k ds pre ps
  cp : Sn lo w c vc win last kc dc
  blo : b < lo
  vlo : ∀ j, v.ownBlock = some j → j < lo ∨ hi ≤ j
  chi : c < hi
  vhi : ∀ j, vc.ownBlock = some j → j < hi
  hiw : hi ≤ w.heap.size
  loB : B ≤ lo
section
variable {B lo hi : Nat} {w0 w w' : World} {b b' c : Nat} {v v' vc : Value} {win last : Int} {k kc : Nat} {ds dc pre ps : List ByteArray}
theorem Tc.fr {v1 : Value} {k1 : Nat} {ds1 : List ByteArray} (h : Tc B lo hi w0 w b v b' v' c vc win last k ds kc dc pre ps) (hs : Sn B w' b v1 win last k1 ds1) (hf : Fr w w' b v.ownBlock) (hn : Nw w v v1) : Tc B lo hi w0 w' b v1 b' v' c vc win last k1 ds1 kc dc pre ps :=
  ⟨h.tw.fr hs hf, h.cp.same (hf.seg h.blo h.vlo h.cp.lo h.chi h.cp.lt) (fun j hj => hf.seg h.blo h.vlo (h.cp.row.lt j hj).1 (h.vhi j hj) (h.cp.row.lt j hj).2), h.blo, fun j hj => (hn j hj).elim (h.vlo j) (fun e => .inr (Nat.le_trans h.hiw e)), h.chi, h.vhi, Nat.le_trans h.hiw hf.size, h.loB⟩
theorem tc_off (x : ByteArray) (hx : x.size ≤ 1000) (h : Tc B lo hi w0 w b v b' v' c vc win last k ds kc dc pre ps) :
    Calls Try.prog 12 #[.pointer (some ⟨b, 0, none⟩), .string x] w fun e w' => (∃ N E, e = .returned (.tuple #[.int .i64 N, .int .i64 E])) ∧ ∃ v1 k1 ds1, Tc B lo hi w0 w' b v1 b' v' c vc win last k1 ds1 kc dc pre ps := by
  refine (off_any x hx w h.tw.sn).mono ?_
  rintro e w1 ⟨rfl, v1, hs, hf, hn⟩
  exact ⟨⟨_, _, rfl⟩, v1, _, _, h.fr hs hf hn⟩
theorem tc_ack (n : Int) (h : Tc B lo hi w0 w b v b' v' c vc win last k ds kc dc pre ps) :
    Calls Try.prog 14 #[.pointer (some ⟨b, 0, none⟩), .int .i64 n] w fun e w' => (∃ N, e = .returned (.int .i64 N)) ∧ ∃ v1 k1 ds1, Tc B lo hi w0 w' b v1 b' v' c vc win last k1 ds1 kc dc pre ps := by
  refine (ack_any n w h.tw.sn).mono ?_
  rintro e w1 ⟨rfl, v1, hs, hf, hn⟩
  exact ⟨⟨_, rfl⟩, v1, _, _, h.fr hs hf hn⟩
theorem tc_copy (h : Tw B w0 w b v b' v' win last k ds pre ps) :
    Calls Try.prog 16 #[.pointer (some ⟨b, 0, none⟩)] w fun e w' => ∃ c vc, e = .returned (.pointer (some ⟨c, 0, none⟩)) ∧ Tc B w.heap.size w'.heap.size w0 w' b v b' v' c vc win last k ds k ds pre ps ∧ Below w.heap.size w w' := by
  refine (copy_any w h.sn).mono ?_
  rintro e w1 ⟨rfl, vc, hs, hb⟩
  exact ⟨_, vc, rfl, ⟨h.next hb, hs, h.sn.lt, fun j hj => .inl (h.sn.row.lt j hj).2, hs.lt, fun j hj => (hs.row.lt j hj).2, Nat.le_refl _, h.le⟩, hb⟩
theorem Tc.done (h : Tc B lo hi w0 w b v b' v' c vc win last k ds kc dc pre ps) : Tw B w0 w c vc b' v' win last kc dc pre ps := ⟨h.cp.lower h.loB, h.tw.dm, h.tw.bel, h.tw.le⟩
theorem tw_start1 {w W w1 w2 : World} (hW : Below w.heap.size w W) (hs : Sn W.heap.size w1 W.heap.size (.slice none 0 0) win last 0 []) (hb : Below W.heap.size W w1) (hd : Dm w1.heap.size w2 w1.heap.size (.slice none 0 0) win last [] []) (hb2 : Below w1.heap.size w1 w2) : Tw w.heap.size w w2 W.heap.size (.slice none 0 0) w1.heap.size (.slice none 0 0) win last 0 [] [] [] := by
  have h1 := hW.size
  have h2 := hb.size
  have h3 := hb2.size
  exact ⟨(hs.lower h1).next hb2, ⟨by omega, hd.blk, hd.row.lower (by omega), hd.ok⟩, (hW.trans (hb.mono h1)).trans (hb2.mono (by omega)), by omega⟩
theorem tw_start2 {w W w1 w2 : World} (hW : Below w.heap.size w W) (hd : Dm W.heap.size w1 W.heap.size (.slice none 0 0) win last [] []) (hb : Below W.heap.size W w1) (hs : Sn w1.heap.size w2 w1.heap.size (.slice none 0 0) win last 0 []) (hb2 : Below w1.heap.size w1 w2) : Tw w.heap.size w w2 w1.heap.size (.slice none 0 0) W.heap.size (.slice none 0 0) win last 0 [] [] [] := by
  have h1 := hW.size
  have h2 := hb.size
  have h3 := hb2.size
  have hd2 := hd.next hb2
  exact ⟨hs.lower (by omega), ⟨by omega, hd2.blk, hd2.row.lower (by omega), hd2.ok⟩, (hW.trans (hb.mono h1)).trans (hb2.mono (by omega)), by omega⟩
theorem act_kept {wr w1 : World} {x y z : Value} (ho : Oth (wr.alloc (.cells #[x, y, z] 31)) w1) : w1.heap[wr.heap.size]? = some (.cells #[x, y, z] 31 (0, 0)) := (ho _ _ _ _ (heap_alloc_new _ _) (by decide) (by decide) (by decide)).trans (heap_alloc_new _ _)
end
end Go.Proofs.Ytkpnmcchahhbdaa
