/- How the program's client, and the document's, lie in memory. -/
import Derived.Test.YtbbgibekplfacaaDoorN0
namespace Go.Proofs.YtbbgibekplfacaaDoor
open Go Go.RowKit
set_option maxRecDepth 20000
/-- What is open at the program's: nothing, or a row of its own. -/
def OpAt (B : Nat) (w : World) (vo : Value) (op : List Up) : Prop := (vo = .slice none 0 0 ∧ op = []) ∨ ∃ g, vo = .slice (some ⟨g, 0, none⟩) op.length op.length ∧ Rw w g op ∧ B ≤ g
theorem OpAt.is {B : Nat} {w : World} {vo : Value} {op : List Up} (h : OpAt B w vo op) : ∃ a c, vo = .slice a op.length c ∧ IsUs w a op.length op ∧ op.length ≤ c ∧ (a = none → c = 0) := by
  rcases h with ⟨rfl, rfl⟩ | ⟨g, rfl, hr, _⟩
  · exact ⟨none, 0, rfl, isUs_nil w, Nat.le_refl _, fun _ => rfl⟩
  · exact ⟨_, _, rfl, hr.is, Nat.le_refl _, fun e => by cases e⟩
theorem OpAt.foot {B : Nat} {w : World} {vo : Value} {op : List Up} (h : OpAt B w vo op) (x : Nat) (hx : vo.ownBlock = some x) : B ≤ x ∧ x < w.heap.size := by
  rcases h with ⟨rfl, rfl⟩ | ⟨g, rfl, hr, hB⟩
  · cases hx
  · simp only [Value.ownBlock, Option.some.injEq] at hx
    subst hx
    exact ⟨hB, hr.lt⟩
theorem OpAt.keep {B : Nat} {w w' : World} {vo : Value} {op : List Up} (h : OpAt B w vo op) (hk : ∀ x, vo.ownBlock = some x → w'.heap[x]? = w.heap[x]?) : OpAt B w' vo op := by
  rcases h with ⟨rfl, rfl⟩ | ⟨g, rfl, hr, hB⟩
  · exact .inl ⟨rfl, rfl⟩
  · exact .inr ⟨g, rfl, (hk g rfl).trans hr, hB⟩
/-- The cells of the program's client. -/
def pcs (jb : Nat) (s : Cs) (v vo : Value) : Array Value := #[.pointer (some ⟨jb, 0, none⟩), .int .i64 s.o, .int .i64 s.mtu, .int .i64 s.most, v, .int .i64 (s.k : Int), vo]
/-- Its own blocks. -/
def Pf (b : Nat) (v : Value) (S FJ : Nat → Prop) (vo : Value) (x : Nat) : Prop := Jf b v S x ∨ FJ x ∨ vo.ownBlock = some x
/-- The program's client in block b, its journal in block jb. -/
structure Pq (B : Nat) (w : World) (b jb : Nat) (FJ : Nat → Prop) (v : Value) (S : Nat → Prop) (rs : List Rn) (vo : Value) (s : Cs) : Prop where
  kn : Kn 79 B w b (pcs jb s v vo) v S rs
  mp : rs.map kR = s.kn
  jx : Jx 94 B w jb FJ s.o s.last s.uss
  op : OpAt B w vo s.op
  ap : ∀ x, Jf b v S x → ¬ FJ x
  ao : ∀ x, vo.ownBlock = some x → ¬ Jf b v S x ∧ ¬ FJ x
def Pk (B : Nat) (w : World) (b : Nat) (F : Nat → Prop) (s : Cs) : Prop := ∃ jb FJ v S rs vo, Pq B w b jb FJ v S rs vo s ∧ F = Pf b v S FJ vo
section
variable {B b jb : Nat} {w w' : World} {FJ S F : Nat → Prop} {v vo : Value} {rs : List Rn} {s : Cs}
theorem Pq.foot (h : Pq B w b jb FJ v S rs vo s) (x : Nat) (hx : Pf b v S FJ vo x) : B ≤ x ∧ x < w.heap.size := by
  rcases hx with hx | hx | hx
  · exact h.kn.foot x hx
  · exact h.jx.foot x hx
  · exact h.op.foot x hx
theorem Pq.keep (h : Pq B w b jb FJ v S rs vo s) (hk : ∀ x, Pf b v S FJ vo x → w'.heap[x]? = w.heap[x]?) : Pq B w' b jb FJ v S rs vo s :=
  ⟨h.kn.keep fun x hx => hk x (.inl hx), h.mp, h.jx.keep fun x hx => hk x (.inr (.inl hx)), h.op.keep fun x hx => hk x (.inr (.inr hx)), h.ap, h.ao⟩
theorem Pq.next (h : Pq B w b jb FJ v S rs vo s) (hb : Below w.heap.size w w') : Pq B w' b jb FJ v S rs vo s := h.keep fun x hx => hb.block x (h.foot x hx).2
theorem Pq.asit (h : Pq B w b jb FJ v S rs vo s) (e : w'.heap = w.heap) : Pq B w' b jb FJ v S rs vo s := h.keep fun x _ => by rw [e]
theorem Pk.foot (h : Pk B w b F s) (x : Nat) (hx : F x) : B ≤ x ∧ x < w.heap.size := by
  obtain ⟨jb, FJ, v, S, rs, vo, hq, rfl⟩ := h
  exact hq.foot x hx
theorem Pk.me (h : Pk B w b F s) : F b := by
  obtain ⟨jb, FJ, v, S, rs, vo, hq, rfl⟩ := h
  exact .inl (.inl rfl)
theorem Pk.keep (h : Pk B w b F s) (hk : ∀ x, F x → w'.heap[x]? = w.heap[x]?) : Pk B w' b F s := by
  obtain ⟨jb, FJ, v, S, rs, vo, hq, rfl⟩ := h
  exact ⟨jb, FJ, v, S, rs, vo, hq.keep hk, rfl⟩
theorem Pk.next (h : Pk B w b F s) (hb : Below w.heap.size w w') : Pk B w' b F s := h.keep fun x hx => hb.block x (h.foot x hx).2
theorem Pk.asit (h : Pk B w b F s) (e : w'.heap = w.heap) : Pk B w' b F s := h.keep fun x _ => by rw [e]
theorem Pk.other {G : Nat → Prop} (h : Pk B w b F s) (hl : Lv w w' G) (hd : ∀ x, F x → ¬ G x) : Pk B w' b F s := h.keep fun x hx => hl.block x (h.foot x hx).2 (hd x hx)
theorem Pq.c0 (h : Pq B w b jb FJ v S rs vo s) : w.cell? ⟨b, 0, none⟩ = some (.pointer (some ⟨jb, 0, none⟩)) := h.kn.c 0 _ rfl
theorem Pq.c1 (h : Pq B w b jb FJ v S rs vo s) : w.cell? ⟨b, 1, none⟩ = some (.int .i64 s.o) := h.kn.c 1 _ rfl
theorem Pq.c2 (h : Pq B w b jb FJ v S rs vo s) : w.cell? ⟨b, 2, none⟩ = some (.int .i64 s.mtu) := h.kn.c 2 _ rfl
theorem Pq.c3 (h : Pq B w b jb FJ v S rs vo s) : w.cell? ⟨b, 3, none⟩ = some (.int .i64 s.most) := h.kn.c 3 _ rfl
theorem Pq.c4 (h : Pq B w b jb FJ v S rs vo s) : w.cell? ⟨b, 4, none⟩ = some v := h.kn.c 4 _ rfl
theorem Pq.c5 (h : Pq B w b jb FJ v S rs vo s) : w.cell? ⟨b, 5, none⟩ = some (.int .i64 (s.k : Int)) := h.kn.c 5 _ rfl
theorem Pq.c6 (h : Pq B w b jb FJ v S rs vo s) : w.cell? ⟨b, 6, none⟩ = some vo := h.kn.c 6 _ rfl
theorem Pq.f0 (h : Pq B w b jb FJ v S rs vo s) (i : Nat) : w.frozen? ⟨b, i, none⟩ = false := h.kn.f0 i
theorem Pq.lt (h : Pq B w b jb FJ v S rs vo s) : b < w.heap.size := h.kn.lt
end
/-- How it stands behind a call on the program's client. -/
structure PkW (B : Nat) (w w' : World) (b : Nat) (F F' : Nat → Prop) (s : Cs) : Prop where
  pk : Pk B w' b F' s
  lv : Lv w w' F
  new : ∀ x, F' x → F x ∨ w.heap.size ≤ x
theorem pkW_no {B b : Nat} {w w' : World} {F : Nat → Prop} {s : Cs} (h : Pk B w b F s) (hb : Below w.heap.size w w') : PkW B w w' b F F s := ⟨h.next hb, Lv.ofBelow hb F, fun _ hx => .inl hx⟩

/-- A row of rounds, and their updates, in blocks of M. -/
structure RsM (w : World) (M : Nat → Prop) (a : Option Addr) (len cap : Nat) (rs : List Rn) : Prop where
  is : IsRs w a len rs
  hc : len ≤ cap
  hn : a = none → cap = 0
  row : 0 < len → ∀ g off, a = some ⟨g, off, none⟩ → M g
  each : ∀ r ∈ rs, 0 < r.len → ∀ g off, r.a = some ⟨g, off, none⟩ → M g
/-- A row of updates in blocks of M. -/
structure UsM (w : World) (M : Nat → Prop) (a : Option Addr) (len cap : Nat) (us : List Up) : Prop where
  is : IsUs w a len us
  hc : len ≤ cap
  hn : a = none → cap = 0
  row : 0 < len → ∀ g off, a = some ⟨g, off, none⟩ → M g
section
variable {w w' : World} {M M' : Nat → Prop} {a : Option Addr} {len cap : Nat} {rs : List Rn} {us : List Up}
theorem isUs_keep (h : IsUs w a len us) (hk : 0 < len → ∀ g off, a = some ⟨g, off, none⟩ → w'.heap[g]? = w.heap[g]?) : IsUs w' a len us := by
  by_cases h0 : 0 < len
  · exact isUs_same h fun g off e => hk h0 g off e
  · obtain rfl : len = 0 := by omega
    exact ⟨h.size, fun h => absurd h (Nat.lt_irrefl _)⟩
theorem rsAt_keep (h : RsAt w a len rs) (hk : 0 < len → ∀ g off, a = some ⟨g, off, none⟩ → w'.heap[g]? = w.heap[g]?) : RsAt w' a len rs := by
  refine ⟨h.size, fun h0 => ?_⟩
  obtain ⟨b, off, e, hf⟩ := h.lies h0
  have hh : ∀ i, w'.cell? ⟨b, i, none⟩ = w.cell? ⟨b, i, none⟩ := fun i => World.cell?_of_block (hk h0 b off e)
  exact ⟨b, off, e, three fun i hi => ⟨(hh _).trans (hf.o i hi), (hh _).trans (hf.n i hi), (hh _).trans (hf.u i hi)⟩⟩
theorem RsM.keep (h : RsM w M a len cap rs) (hk : ∀ x, M x → w'.heap[x]? = w.heap[x]?) : RsM w' M a len cap rs := by
  have h1 := rsAt_keep (w' := w') h.is.at fun h0 g off e => hk g (h.row h0 g off e)
  exact ⟨⟨h1.size, h1.lies, fun r hr => ⟨isUs_keep (h.is.each r hr).1 fun h0 g off e => hk g (h.each r hr h0 g off e), (h.is.each r hr).2⟩⟩, h.hc, h.hn, h.row, h.each⟩
theorem RsM.mono (h : RsM w M a len cap rs) (hk : ∀ x, M x → M' x) : RsM w M' a len cap rs := ⟨h.is, h.hc, h.hn, fun h0 g off e => hk g (h.row h0 g off e), fun r hr h0 g off e => hk g (h.each r hr h0 g off e)⟩
theorem UsM.keep (h : UsM w M a len cap us) (hk : ∀ x, M x → w'.heap[x]? = w.heap[x]?) : UsM w' M a len cap us := ⟨isUs_keep h.is fun h0 g off e => hk g (h.row h0 g off e), h.hc, h.hn, h.row⟩
theorem UsM.mono (h : UsM w M a len cap us) (hk : ∀ x, M x → M' x) : UsM w M' a len cap us := ⟨h.is, h.hc, h.hn, fun h0 g off e => hk g (h.row h0 g off e)⟩
end
/-- The document's client in block b, its journal in block jb; M: what never changes. -/
structure Dq (B : Nat) (w : World) (b jb : Nat) (FJ M : Nat → Prop) (ak : Option Addr) (lk ck : Nat) (rk : List Rn) (ap : Option Addr) (lp cp : Nat) (rp : List Rn) (pd : List (List Up)) (ao : Option Addr) (lo co : Nat) (s : Cs) : Prop where
  hB : B ≤ b
  blk : w.heap[b]? = some (.cells #[.pointer (some ⟨jb, 0, none⟩), .int .i64 s.o, .int .i64 s.mtu, .int .i64 s.most, .slice ak lk ck, .slice ap lp cp, .slice ao lo co] 44 (0, 0))
  jx : Jx 64 B w jb FJ s.o s.last s.uss
  bj : ¬ FJ b
  low : ∀ x, x < B → M x
  mm : ∀ x, M x → x < w.heap.size ∧ x ≠ b ∧ x ≠ jb
  kr : RsM w M ak lk ck rk
  km : rk.map kR = s.kn
  pr : RsM w M ap lp cp rp
  po : Of s.o s.k pd rp
  ou : UsM w M ao lo co s.op
/-- Its blocks. -/
def Df (b : Nat) (FJ M : Nat → Prop) (x : Nat) : Prop := M x ∨ x = b ∨ FJ x
def Dk (B : Nat) (w : World) (b : Nat) (D : Nat → Prop) (s : Cs) : Prop := ∃ jb FJ M ak lk ck rk ap lp cp rp ao lo co, Dq B w b jb FJ M ak lk ck rk ap lp cp rp (s.uss.drop s.k) ao lo co s ∧ D = Df b FJ M
section
variable {B b jb : Nat} {w w' : World} {FJ M D : Nat → Prop} {ak ap ao : Option Addr} {lk ck lp cp lo co : Nat} {rk rp : List Rn} {pd : List (List Up)} {s : Cs}
theorem Dq.lt (h : Dq B w b jb FJ M ak lk ck rk ap lp cp rp pd ao lo co s) : b < w.heap.size := (Array.getElem?_eq_some_iff.1 h.blk).1
theorem Dq.foot (h : Dq B w b jb FJ M ak lk ck rk ap lp cp rp pd ao lo co s) (x : Nat) (hx : Df b FJ M x) : x < w.heap.size := by
  rcases hx with hx | rfl | hx
  · exact (h.mm x hx).1
  · exact h.lt
  · exact (h.jx.foot x hx).2
theorem Dq.keep (h : Dq B w b jb FJ M ak lk ck rk ap lp cp rp pd ao lo co s) (hs : w.heap.size ≤ w'.heap.size) (hk : ∀ x, Df b FJ M x → w'.heap[x]? = w.heap[x]?) : Dq B w' b jb FJ M ak lk ck rk ap lp cp rp pd ao lo co s :=
  ⟨h.hB, (hk b (.inr (.inl rfl))).trans h.blk, h.jx.keep fun x hx => hk x (.inr (.inr hx)), h.bj, h.low, fun x hx => ⟨Nat.lt_of_lt_of_le (h.mm x hx).1 hs, (h.mm x hx).2⟩, h.kr.keep fun x hx => hk x (.inl hx), h.km, h.pr.keep fun x hx => hk x (.inl hx), h.po, h.ou.keep fun x hx => hk x (.inl hx)⟩
theorem Dq.next (h : Dq B w b jb FJ M ak lk ck rk ap lp cp rp pd ao lo co s) (hb : Below w.heap.size w w') : Dq B w' b jb FJ M ak lk ck rk ap lp cp rp pd ao lo co s := h.keep hb.size fun x hx => hb.block x (h.foot x hx)
theorem Dk.foot (h : Dk B w b D s) (x : Nat) (hx : D x) : x < w.heap.size := by
  obtain ⟨jb, FJ, M, ak, lk, ck, rk, ap, lp, cp, rp, ao, lo, co, hq, rfl⟩ := h
  exact hq.foot x hx
theorem Dk.low (h : Dk B w b D s) (x : Nat) (hx : x < B) : D x := by
  obtain ⟨jb, FJ, M, ak, lk, ck, rk, ap, lp, cp, rp, ao, lo, co, hq, rfl⟩ := h
  exact .inl (hq.low x hx)
theorem Dk.keep (h : Dk B w b D s) (hs : w.heap.size ≤ w'.heap.size) (hk : ∀ x, D x → w'.heap[x]? = w.heap[x]?) : Dk B w' b D s := by
  obtain ⟨jb, FJ, M, ak, lk, ck, rk, ap, lp, cp, rp, ao, lo, co, hq, rfl⟩ := h
  exact ⟨jb, FJ, M, ak, lk, ck, rk, ap, lp, cp, rp, ao, lo, co, hq.keep hs hk, rfl⟩
theorem Dk.next (h : Dk B w b D s) (hb : Below w.heap.size w w') : Dk B w' b D s := h.keep hb.size fun x hx => hb.block x (h.foot x hx)
theorem Dk.other {G : Nat → Prop} (h : Dk B w b D s) (hl : Lv w w' G) (hd : ∀ x, D x → ¬ G x) : Dk B w' b D s := h.keep hl.size fun x hx => hl.block x (h.foot x hx) (hd x hx)
theorem Dq.c0 (h : Dq B w b jb FJ M ak lk ck rk ap lp cp rp pd ao lo co s) : w.cell? ⟨b, 0, none⟩ = some (.pointer (some ⟨jb, 0, none⟩)) := cell_at h.blk 0 _ rfl
theorem Dq.c1 (h : Dq B w b jb FJ M ak lk ck rk ap lp cp rp pd ao lo co s) : w.cell? ⟨b, 1, none⟩ = some (.int .i64 s.o) := cell_at h.blk 1 _ rfl
theorem Dq.c2 (h : Dq B w b jb FJ M ak lk ck rk ap lp cp rp pd ao lo co s) : w.cell? ⟨b, 2, none⟩ = some (.int .i64 s.mtu) := cell_at h.blk 2 _ rfl
theorem Dq.c3 (h : Dq B w b jb FJ M ak lk ck rk ap lp cp rp pd ao lo co s) : w.cell? ⟨b, 3, none⟩ = some (.int .i64 s.most) := cell_at h.blk 3 _ rfl
theorem Dq.c4 (h : Dq B w b jb FJ M ak lk ck rk ap lp cp rp pd ao lo co s) : w.cell? ⟨b, 4, none⟩ = some (.slice ak lk ck) := cell_at h.blk 4 _ rfl
theorem Dq.c5 (h : Dq B w b jb FJ M ak lk ck rk ap lp cp rp pd ao lo co s) : w.cell? ⟨b, 5, none⟩ = some (.slice ap lp cp) := cell_at h.blk 5 _ rfl
theorem Dq.c6 (h : Dq B w b jb FJ M ak lk ck rk ap lp cp rp pd ao lo co s) : w.cell? ⟨b, 6, none⟩ = some (.slice ao lo co) := cell_at h.blk 6 _ rfl
theorem Dq.f0 (h : Dq B w b jb FJ M ak lk ck rk ap lp cp rp pd ao lo co s) (i : Nat) : w.frozen? ⟨b, i, none⟩ = false := by have := h.blk; simp [World.frozen?, this]
end
section
variable {B b jb : Nat} {w w' : World} {FJ M D : Nat → Prop} {ak ap ao : Option Addr} {lk ck lp cp lo co : Nat} {rk rp : List Rn} {pd : List (List Up)} {s : Cs}
/-- .. with what is new. -/
def Mn (M : Nat → Prop) (w w' : World) (x : Nat) : Prop := M x ∨ (w.heap.size ≤ x ∧ x < w'.heap.size)
theorem Dq.more {M' : Nat → Prop} (h : Dq B w b jb FJ M ak lk ck rk ap lp cp rp pd ao lo co s) (hm : ∀ x, M x → M' x) (hn : ∀ x, M' x → x < w.heap.size ∧ x ≠ b ∧ x ≠ jb) : Dq B w b jb FJ M' ak lk ck rk ap lp cp rp pd ao lo co s :=
  ⟨h.hB, h.blk, h.jx, h.bj, fun x hx => hm x (h.low x hx), hn, h.kr.mono hm, h.km, h.pr.mono hm, h.po, h.ou.mono hm⟩
theorem Dq.grow (h : Dq B w b jb FJ M ak lk ck rk ap lp cp rp pd ao lo co s) (hb : Below w.heap.size w w') : Dq B w' b jb FJ (Mn M w w') ak lk ck rk ap lp cp rp pd ao lo co s :=
  (h.next hb).more (fun x hx => .inl hx) fun x hx => by
    have h1 := h.lt
    have h2 := (h.jx.foot jb h.jx.me).2
    rcases hx with hx | hx
    · exact ⟨Nat.lt_of_lt_of_le (h.mm x hx).1 hb.size, (h.mm x hx).2⟩
    · exact ⟨hx.2, by omega, by omega⟩
theorem Dq.setK (h : Dq B w b jb FJ M ak lk ck rk ap lp cp rp pd ao lo co s) {ak' : Option Addr} {lk' ck' : Nat} {rk' : List Rn} (hr : RsM w M ak' lk' ck' rk') : Dq B (w.setCell ⟨b, 4, none⟩ (.slice ak' lk' ck')) b jb FJ M ak' lk' ck' rk' ap lp cp rp pd ao lo co { s with kn := rk'.map kR } := by
  have hne : ∀ x, M x → (w.setCell ⟨b, 4, none⟩ (.slice ak' lk' ck')).heap[x]? = w.heap[x]? := fun x hx => Below.heap_setCell _ _ _ _ (h.mm x hx).2.1
  refine ⟨h.hB, ?_, h.jx.setnew h.bj _ _, h.bj, h.low, fun x hx => by simpa using h.mm x hx, hr.keep hne, rfl, h.pr.keep hne, h.po, h.ou.keep hne⟩
  have := h.blk
  simp [World.setCell, Array.getElem?_modify, this]
theorem Dq.setP (h : Dq B w b jb FJ M ak lk ck rk ap lp cp rp pd ao lo co s) {ap' : Option Addr} {lp' cp' k' : Nat} {rp' : List Rn} {pd' : List (List Up)} (hr : RsM w M ap' lp' cp' rp') (ho : Of s.o k' pd' rp') : Dq B (w.setCell ⟨b, 5, none⟩ (.slice ap' lp' cp')) b jb FJ M ak lk ck rk ap' lp' cp' rp' pd' ao lo co { s with k := k' } := by
  have hne : ∀ x, M x → (w.setCell ⟨b, 5, none⟩ (.slice ap' lp' cp')).heap[x]? = w.heap[x]? := fun x hx => Below.heap_setCell _ _ _ _ (h.mm x hx).2.1
  refine ⟨h.hB, ?_, h.jx.setnew h.bj _ _, h.bj, h.low, fun x hx => by simpa using h.mm x hx, h.kr.keep hne, h.km, hr.keep hne, ho, h.ou.keep hne⟩
  have := h.blk
  simp [World.setCell, Array.getElem?_modify, this]
theorem Dq.setO (h : Dq B w b jb FJ M ak lk ck rk ap lp cp rp pd ao lo co s) {ao' : Option Addr} {lo' co' : Nat} {op' : List Up} (hr : UsM w M ao' lo' co' op') : Dq B (w.setCell ⟨b, 6, none⟩ (.slice ao' lo' co')) b jb FJ M ak lk ck rk ap lp cp rp pd ao' lo' co' { s with op := op' } := by
  have hne : ∀ x, M x → (w.setCell ⟨b, 6, none⟩ (.slice ao' lo' co')).heap[x]? = w.heap[x]? := fun x hx => Below.heap_setCell _ _ _ _ (h.mm x hx).2.1
  refine ⟨h.hB, ?_, h.jx.setnew h.bj _ _, h.bj, h.low, fun x hx => by simpa using h.mm x hx, h.kr.keep hne, h.km, h.pr.keep hne, h.po, hr.keep hne⟩
  have := h.blk
  simp [World.setCell, Array.getElem?_modify, this]
end
/-- How it stands behind a call on the document's client. -/
structure DkW (B : Nat) (w w' : World) (b : Nat) (D D' : Nat → Prop) (s : Cs) : Prop where
  dk : Dk B w' b D' s
  lv : Lv w w' fun x => B ≤ x ∧ D x
  new : ∀ x, D' x → D x ∨ w.heap.size ≤ x
theorem dkW_no {B b : Nat} {w w' : World} {D : Nat → Prop} {s : Cs} (h : Dk B w b D s) (hb : Below w.heap.size w w') : DkW B w w' b D D s := ⟨h.next hb, Lv.ofBelow hb _, fun _ hx => .inl hx⟩
end Go.Proofs.YtbbgibekplfacaaDoor
