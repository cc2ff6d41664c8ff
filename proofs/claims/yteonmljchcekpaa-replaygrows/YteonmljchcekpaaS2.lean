/- put, Do. -/
import Derived.Test.YteonmljchcekpaaS1
import Derived.Test.YteonmljchcekpaaSG
namespace Go.Proofs.Yteonmljchcekpaa
open Go Go.RowKit Go.Maps
set_option maxRecDepth 20000
theorem gtrans {a b c : World} {row : Option Nat} (h : a.grownBy b row) (k : b.grownBy c row) : a.grownBy c row :=
  ⟨k.os.trans h.os, k.tape.trans h.tape, k.output.trans h.output, Nat.le_trans h.size k.size, fun i hi hr => (k.block i (Nat.lt_of_lt_of_le hi h.size) hr).trans (h.block i hi hr)⟩
theorem undrew {a b : World} {row : Option Nat} (h : a.drew.grownBy b row) : a.grownBy b row := ⟨h.os, h.tape, h.output, h.size, h.block⟩
def putF (f : Fn) (k : Ky) (v : Vl) : Fn := fun x => if x = k then v else f x
theorem St.dropped {w w' : World} {b m n f} {D : DataW Vl} (h : St w b m n f) (ha : Ag D f) {k : Ky} (ho : w'.ownsMap Try.prog 9 vR m n (D.del (.string k))) (ht : w.mapTurned w' m) : St w' b m n (putF f k noneV) :=
  ⟨(ht.grown.block b h.lt (fun e => h.ne (by injection e))).trans h.1, _, ho, ha.del k⟩
theorem St.stored {w w' : World} {b m n f} {D : DataW Vl} (h : St w b m n f) (ha : Ag D f) (hm : IsMap D) {k : Ky} {v : Vl} (hv : v.1 ≠ 0) (ho : w'.ownsMap Try.prog 9 vR m (n + 1) (D.put (.string k) (.held v))) (ht : w.mapTurned w' m) : St w' b m (n + 1) (putF f k v) :=
  ⟨(ht.grown.block b h.lt (fun e => h.ne (by injection e))).trans h.1, _, ho, ha.put hm k v hv⟩
set_option maxHeartbeats 800000 in
theorem put_none (b m n : Nat) (f : Fn) (key : ByteArray) (hk : key.size ≤ 1000) (w : World) (h : St w b m n f) :
    Calls Try.prog 36 #[.pointer (some ⟨b, 0, none⟩), .string key, .agg #[.int .i64 0, .int .i64 0, .string ⟨#[]⟩]] w fun e w' => e = .returned (.tuple #[]) ∧ St w' b m n (putF f (ky key) noneV) ∧ w.grownBy w' (some m) := by
  have h1 := h.alloc (.cells #[.int .i64 0, .int .i64 0, .string ⟨#[]⟩] 27)
  have c : w.cell? ⟨b, 0, none⟩ = some (.map (some m)) := h.c
  have hl := h.lt
  obtain ⟨D, ho, ha⟩ := h1.2
  have H1 := Lib.hid h1
  have HA := Lib.hid ha
  clear h h1 ha
  go_enter Try.func36, Try.ntmps36
  go_wp2_with (first | (at_delete; refine wpList_delete_own _ rfl _ _ 60 9 rfl 27 law Try.underlying60 vR m n D rfl ho _ _ rfl (keyIs key hk) ?_; intro w1 hown1 hturn1) | go_in)
  first | go_end0 | refine bodyPost_ret (results_none rfl _ _ _) rfl ?_
  exact ⟨rfl, H1.out.dropped HA.out hown1 hturn1, gtrans (World.grownBy_alloc w _ _) hturn1.grown⟩
theorem put_arm {w W w1 : World} {b m n : Nat} {f : Fn} {key : ByteArray} {vk vn : Int} {vs : ByteArray} (h : St (w.alloc (.cells #[.int .i64 vk, .int .i64 vn, .string vs] 27)) b m n f) (hk : key.size ≤ 1000) (hn : n < 1000000) (hv : ¬ vk = 0)
    (hb : Below W.heap.size W w1) (hW : W = (w.alloc (.cells #[.int .i64 vk, .int .i64 vn, .string vs] 27)).drew) :
    ∃ w2, (Instr.mapUpdate 60 (.map (some m)) (.string key) (.agg #[.int .i64 vk, .int .i64 vn, .string vs])).run Try.prog w1 = .ok () w2 ∧
      (w1.cell? ⟨b, 0, none⟩ = some (.map (some m)) ∧ w1.cell? ⟨w.heap.size, 0, none⟩ = some (.int .i64 vk) ∧ w1.cell? ⟨w.heap.size, 1, none⟩ = some (.int .i64 vn) ∧ w1.cell? ⟨w.heap.size, 2, none⟩ = some (.string vs)) ∧
      (w2.cell? ⟨b, 0, none⟩ = some (.map (some m)) ∧ w2.cell? ⟨w.heap.size, 0, none⟩ = some (.int .i64 vk) ∧ w2.cell? ⟨w.heap.size, 1, none⟩ = some (.int .i64 vn) ∧ w2.cell? ⟨w.heap.size, 2, none⟩ = some (.string vs)) ∧
      St w2 b m (n + 1) (putF f (ky key) (vk, vn, vs)) ∧ w.grownBy w2 (some m) := by
  subst hW
  have hr0 : (w.alloc (.cells #[.int .i64 vk, .int .i64 vn, .string vs] 27)).heap[w.heap.size]? = some (.cells #[.int .i64 vk, .int .i64 vn, .string vs] 27 (0, 0)) := new_at rfl
  have h2 : St w1 b m n f := St.below (h.same (w' := (w.alloc (.cells #[.int .i64 vk, .int .i64 vn, .string vs] 27)).drew) rfl) hb
  have hr : w1.heap[w.heap.size]? = some (.cells #[.int .i64 vk, .int .i64 vn, .string vs] 27 (0, 0)) := kept_at (W := (w.alloc (.cells #[.int .i64 vk, .int .i64 vn, .string vs] 27)).drew) hr0 hb
  obtain ⟨D, ho, ha⟩ := h2.2
  obtain ⟨w2, hrun, ho2, ht2⟩ := ho.store law Try.underlying60 (show n < maxLen by unfold maxLen; omega) (keyIs key hk) (vR_mk (vk, vn, vs))
  have hne : m ≠ w.heap.size := by
    intro e
    obtain ⟨es, clock, hm, _⟩ := ho
    rw [e, hr] at hm; cases hm
  have h3 := h2.stored ha ho.isMap hv ho2 ht2
  have hr3 := (ht2.grown.block w.heap.size (Array.getElem?_eq_some_iff.1 hr).1 (fun e => hne (by injection e with e; exact e.symm))).trans hr
  have hg : w.grownBy w1 (some m) := gtrans (World.grownBy_alloc w (.cells #[.int .i64 vk, .int .i64 vn, .string vs] 27) (some m)) (undrew (grown_of (some m) (a := (w.alloc (.cells #[.int .i64 vk, .int .i64 vn, .string vs] 27)).drew) hb))
  exact ⟨w2, hrun, ⟨h2.c, cell_at hr 0 _ rfl, cell_at hr 1 _ rfl, cell_at hr 2 _ rfl⟩, ⟨h3.c, cell_at hr3 0 _ rfl, cell_at hr3 1 _ rfl, cell_at hr3 2 _ rfl⟩, h3, gtrans hg ht2.grown⟩
set_option maxHeartbeats 2000000 in
theorem put_some (b m n : Nat) (f : Fn) (key : ByteArray) (hk : key.size ≤ 1000) (hn : n < 1000000) (vk vn : Int) (vs : ByteArray) (hv : ¬ vk = 0) (w : World) (h : St w b m n f) :
    Calls Try.prog 36 #[.pointer (some ⟨b, 0, none⟩), .string key, .agg #[.int .i64 vk, .int .i64 vn, .string vs]] w fun e w' => e = .returned (.tuple #[]) ∧ St w' b m (n + 1) (putF f (ky key) (vk, vn, vs)) ∧ w.grownBy w' (some m) := by
  have HC := fun w => Lib.hid (clone_any key (by omega) w)
  have hl := h.lt
  have hlm := h.ltm
  have hne := h.ne
  have h1 := h.alloc (.cells #[.int .i64 vk, .int .i64 vn, .string vs] 27)
  have c : w.cell? ⟨b, 0, none⟩ = some (.map (some m)) := h.c
  have H1 := Lib.hid h1
  have HN := Lib.hid hne
  clear h h1 hne
  go_enter Try.func36, Try.ntmps36
  go_wp2_with fail
  have c' : (w.alloc (.cells #[.int .i64 vk, .int .i64 vn, .string vs] 27)).cell? ⟨b, 0, none⟩ = some (.map (some m)) := H1.out.c
  have hr0 : (w.alloc (.cells #[.int .i64 vk, .int .i64 vn, .string vs] 27)).heap[w.heap.size]? = some (.cells #[.int .i64 vk, .int .i64 vn, .string vs] 27 (0, 0)) := new_at rfl
  have d0 := cell_at hr0 0 (.int .i64 vk) rfl
  have d1 := cell_at hr0 1 (.int .i64 vn) rfl
  have d2 := cell_at hr0 2 (.string vs) rfl
  go_region_held3 (fun w' => w'.cell? ⟨b, 0, none⟩ = some (.map (some m)) ∧ w'.cell? ⟨w.heap.size, 0, none⟩ = some (.int .i64 vk) ∧ w'.cell? ⟨w.heap.size, 1, none⟩ = some (.int .i64 vn) ∧ w'.cell? ⟨w.heap.size, 2, none⟩ = some (.string vs))
    (first | exact ⟨c', d0, d1, d2⟩ | exact ⟨g0, g1, g2, g3⟩)
    (first
      | (go_at_call 33
         refine (HC _).out.mono ?_
         rintro e w1 ⟨rfl, hb⟩
         obtain ⟨w2, hrun, ⟨c', d0, d1, d2⟩, ⟨g0, g1, g2, g3⟩, h3, hg3⟩ := put_arm H1.out hk hn hv hb rfl
         have H3 := Lib.hid h3
         have HG := Lib.hid hg3
         clear hb h3 hg3))
  go_wp2
  first | go_end0 | refine bodyPost_ret (results_none rfl _ _ _) rfl ?_
  exact ⟨rfl, H3.out, HG.out⟩
theorem put_any (b m n : Nat) (f : Fn) (key : ByteArray) (hk : key.size ≤ 1000) (hn : n < 1000000) (v : Vl) (hv : Gd v) (w : World) (h : St w b m n f) :
    Calls Try.prog 36 #[.pointer (some ⟨b, 0, none⟩), .string key, vv v] w fun e w' => e = .returned (.tuple #[]) ∧ St w' b m (n + 1) (putF f (ky key) v) ∧ w.grownBy w' (some m) := by
  by_cases e : v.1 = 0
  · have ev := hv.1 e
    subst ev
    exact (put_none b m n f key hk w h).mono fun x w' hx => ⟨hx.1, hx.2.1.mono (Nat.le_succ _), hx.2.2⟩
  · obtain ⟨vk, vn, vs⟩ := v
    exact put_some b m n f key hk hn vk vn vs e w h
end Go.Proofs.Yteonmljchcekpaa
