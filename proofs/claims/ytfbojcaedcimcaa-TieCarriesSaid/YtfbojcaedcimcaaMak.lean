/-
  Texts of this claim, put together.
-/
import Derived.Test.YtfbojcaedcimcaaMah
import Derived.Test.YtfbojcaedcimcaaMaj
import Derived.Test.YtfbojcaedcimcaaMaf

/-
  An end of a link as plain data: what it sends, what it hears, as bytes. Without its memory.
-/
namespace Go.Proofs.Ytfbojcaedcimcaa

theorem bsN_strB {l : List Nat} (h : ∀ x ∈ l, x < 256) : bsN (strB l) = l := by
  unfold bsN strB
  rw [strOfNums_data, List.map_map, List.map_map]
  induction l with
  | nil => rfl
  | cons x t ih =>
    rw [List.map_cons, ih (fun y hy => h y (List.mem_cons_of_mem _ hy))]
    have := h x (List.mem_cons_self ..)
    congr 1
    simp
    omega
theorem putF_lt {f : Frm} (h : ∀ x ∈ f.bod, x < 256) : ∀ x ∈ putF f, x < 256 := by
  intro x hx
  unfold putF at hx
  split at hx
  · rcases List.mem_append.1 hx with hx | hx
    · exact lebL_lt _ x hx
    · exact lebL_lt _ x hx
  · rcases List.mem_append.1 hx with hx | hx
    · rcases List.mem_append.1 hx with hx | hx
      · exact lebL_lt _ x hx
      · exact lebL_lt _ x hx
    · rcases List.mem_append.1 hx with hx | hx
      · exact lebL_lt _ x hx
      · exact h x hx

/-- A frame of data, a frame that says what has come. -/
def dataFm (x : Nat × ByteArray) : Frm := ⟨false, x.1, bsN x.2⟩
def ackFm (k : Nat) : Frm := ⟨true, k, []⟩
def wireD (x : Nat × ByteArray) : ByteArray := strB (bytesF (dataFm x))
def wireA (k : Nat) : ByteArray := strB (bytesF (ackFm k))
/-- Its bytes; is it a frame; which. -/
def okB (b : ByteArray) : Bool := okF (bsN b)
def gotB (b : ByteArray) : Frm := gotF (bsN b)

theorem wire_back {f : Frm} (hn : f.num < 18446744073709551616) (hg : goodF f = true) (hb : ∀ x ∈ f.bod, x < 256) : okB (strB (bytesF f)) = true ∧ gotB (strB (bytesF f)) = f := by
  have e : bytesF f = putF f := by unfold bytesF; rw [if_pos hg]
  unfold okB gotB
  rw [e, bsN_strB (putF_lt hb)]
  exact gotF_put hn hg
theorem wire_data {x : Nat × ByteArray} (h0 : 1 ≤ x.1) (hn : x.1 < 18446744073709551616) (hs : x.2.size ≤ 30000) : okB (wireD x) = true ∧ gotB (wireD x) = dataFm x :=
  wire_back (f := dataFm x) hn (by
    show decide (0 < x.1 ∧ (bsN x.2).length ≤ 30000) = true
    rw [bsN_len]
    exact decide_eq_true ⟨h0, hs⟩) (bsN_lt x.2)
theorem wire_ack {k : Nat} (hn : k < 18446744073709551616) : okB (wireA k) = true ∧ gotB (wireA k) = ackFm k :=
  wire_back (f := ackFm k) hn rfl (fun x hx => by cases hx)

/-- An end: what it sends, what it gets. -/
structure Te where
  s : Sh
  d : Dk
namespace Te
def new (w q f m : Nat) : Te := ⟨Sh.new w q f m, Dk.new w⟩
def push (T : Te) (r : Bool) (s : ByteArray) : Te := ⟨T.s.pushed r s, T.d⟩
def pushO (T : Te) (r : Bool) (s : ByteArray) : List ByteArray := (numd T.s.last (T.s.pushI r s)).map wireD
def tick (T : Te) : Te := ⟨T.s.tick, T.d⟩
def tickO (T : Te) : List ByteArray := (numd T.s.g T.s.tickI).map wireD
/-- What it hears, once it is read. -/
def hear (T : Te) (ok : Bool) (f : Frm) : Te := if ok then (if f.ack then ⟨T.s.acked f.num, T.d⟩ else ⟨T.s, T.d.came f.num (strB f.bod)⟩) else T
def up (T : Te) (ok : Bool) (f : Frm) : List ByteArray := if ok then (if f.ack then [] else T.d.gave f.num (strB f.bod)) else []
def down (T : Te) (ok : Bool) (f : Frm) : List ByteArray := if ok then (if f.ack then (numd T.s.last (T.s.ackI f.num)).map wireD else [wireA ((T.d.came f.num (strB f.bod)).next - 1)]) else []

theorem hear_data (T : Te) {x : Nat × ByteArray} (h0 : 1 ≤ x.1) (hn : x.1 < 18446744073709551616) (hs : x.2.size ≤ 30000) :
    T.hear (okB (wireD x)) (gotB (wireD x)) = ⟨T.s, T.d.came x.1 x.2⟩ ∧ T.up (okB (wireD x)) (gotB (wireD x)) = T.d.gave x.1 x.2 ∧ T.down (okB (wireD x)) (gotB (wireD x)) = [wireA ((T.d.came x.1 x.2).next - 1)] := by
  obtain ⟨e1, e2⟩ := wire_data h0 hn hs
  rw [e1, e2]
  unfold hear up down dataFm
  simp only [if_true, Bool.false_eq_true, if_false, strB_bsN]
  exact ⟨trivial, trivial, trivial⟩
theorem hear_ack (T : Te) {k : Nat} (hn : k < 18446744073709551616) :
    T.hear (okB (wireA k)) (gotB (wireA k)) = ⟨T.s.acked k, T.d⟩ ∧ T.up (okB (wireA k)) (gotB (wireA k)) = [] ∧ T.down (okB (wireA k)) (gotB (wireA k)) = (numd T.s.last (T.s.ackI k)).map wireD := by
  obtain ⟨e1, e2⟩ := wire_ack hn
  rw [e1, e2]
  unfold hear up down ackFm
  simp only [if_true]
  exact ⟨trivial, trivial, trivial⟩
end Te

end Go.Proofs.Ytfbojcaedcimcaa

/-
  frame's Put and Get over bodies.
-/
namespace Go.Proofs.Ytfbojcaedcimcaa
open Go.RowKit

theorem strB_size (l : List Nat) (h : ∀ x ∈ l, x < 256) : (strB l).size = l.length := by
  rw [← bsN_len, bsN_strB h]
theorem bytesF_lt {f : Frm} (h : ∀ x ∈ f.bod, x < 256) : ∀ x ∈ bytesF f, x < 256 := by
  unfold bytesF
  split
  · exact putF_lt h
  · intro x hx
    cases hx

/-- What Put leaves: a body of its own. -/
def PutPost (W : World) (s : ByteArray) (e : Ending) (w' : World) : Prop :=
  ∃ d : Bd, e = .returned (bdV d) ∧ d.s = s ∧ BodyV (fun j => W.heap.size ≤ j) w' d ∧ Below W.heap.size W w'
theorem put_frm {f : Frm} {a : Option Addr} {c : Nat} {W : World} (hs : SlAt bV 256 W a c f.bod) (hn : f.num < 18446744073709551616) (hb : ∀ x ∈ f.bod, x < 256) :
    Calls Try.prog 35 #[.agg (frmA f a c)] W (PutPost W (strB (bytesF f))) := by
  refine (fput_new f a c W hs hn).mono ?_
  rintro e w' ⟨a1, c1, rfl, h1, h2, h3⟩
  refine ⟨⟨a1, c1, strB (bytesF f)⟩, ?_, rfl, ⟨?_, fun ad e _ => h3 ad e⟩, h2⟩
  · show _ = Ending.returned (.slice a1 (strB (bytesF f)).size c1)
    rw [strB_size _ (bytesF_lt hb)]
  · show SlAt bV 256 w' a1 c1 (bsN (strB (bytesF f)))
    rw [bsN_strB (bytesF_lt hb)]
    exact h1
theorem put_data {A : Nat → Prop} {W : World} {b : Bd} {k : Nat} (hb : BodyV A W b) (hn : k < 18446744073709551616) :
    Calls Try.prog 35 #[.agg #[.bool false, .int .u64 (k : Nat), .slice b.a b.s.size b.c]] W (PutPost W (wireD (k, b.s))) := by
  have h := put_frm (f := dataFm (k, b.s)) hb.1 hn (bsN_lt b.s)
  unfold frmA at h
  rwa [show (dataFm (k, b.s)).bod.length = b.s.size from bsN_len b.s] at h
theorem put_ack {W : World} {k : Nat} (hn : k < 18446744073709551616) :
    Calls Try.prog 35 #[.agg #[.bool true, .int .u64 (k : Nat), .slice none 0 0]] W (PutPost W (wireA k)) :=
  put_frm (f := ackFm k) (SlAt.none _ _ _) hn (fun x hx => by cases hx)

/-- What Get leaves. -/
def BodGot (W : World) (s : ByteArray) (e : Ending) (w' : World) : Prop :=
  ∃ d : Bd, e = .returned (.tuple #[.agg #[.bool (gotB s).ack, .int .u64 ((gotB s).num : Nat), bdV d], .int .i64 (if okB s then 0 else 2)]) ∧ d.s = strB (gotB s).bod ∧ BodyV (fun j => W.heap.size ≤ j) w' d ∧ Below W.heap.size W w'
theorem get_body {A : Nat → Prop} {W : World} {b : Bd} (hb : BodyV A W b) (hl : b.s.size ≤ 1000000) :
    Calls Try.prog 17 #[bdV b] W (BodGot W b.s) := by
  have h := fget_any W (bsN b.s) b.a b.c hb.1 (by rw [bsN_len]; exact hl)
  rw [bsN_len] at h
  refine h.mono ?_
  rintro e w' ⟨a, c, rfl, h1, h2, h3⟩
  have hlt : ∀ x ∈ (gotB b.s).bod, x < 256 := h1.lt
  refine ⟨⟨a, c, strB (gotB b.s).bod⟩, ?_, rfl, ⟨?_, fun ad e _ => h3 ad e⟩, h2⟩
  · show _ = Ending.returned (.tuple #[.agg #[.bool (gotB b.s).ack, .int .u64 ((gotB b.s).num : Nat), .slice a (strB (gotB b.s).bod).size c], _])
    rw [strB_size _ hlt]
    rfl
  · show SlAt bV 256 w' a c (bsN (strB (gotB b.s).bod))
    rw [bsN_strB hlt]
    exact h1

end Go.Proofs.Ytfbojcaedcimcaa

/-
  Rows of bodies; what goes out, framed.
-/
namespace Go.Proofs.Ytfbojcaedcimcaa
open Go.RowKit

section
variable {A A' : Nat → Prop} {w w' : World} {v : Value} {ss : List ByteArray} {F : Nat → Prop}
theorem WtR.carry (h : WtR A w v ss) (hs : w.heap.size ≤ w'.heap.size) (hb : ∀ k, k < w.heap.size → A k → w'.heap[k]? = w.heap[k]?) : WtR A w' v ss := by
  obtain ⟨a, cap, L, e, e2, hr, hB⟩ := h
  exact ⟨a, cap, L, e, e2, hr.carry hs hb, fun b hb' => (hB b hb').carry hs hb⟩
theorem WtR.keep (h : WtR A w v ss) (hk : Keep F w w') (hF : ∀ k, k < w.heap.size → A k → ¬ F k) : WtR A w' v ss := h.carry hk.size (fun k h1 h2 => hk.block k h1 (hF k h1 h2))
theorem WtR.mono (h : WtR A w v ss) (hA : ∀ k, k < w.heap.size → A k → A' k) : WtR A' w v ss := by
  obtain ⟨a, cap, L, e, e2, hr, hB⟩ := h
  exact ⟨a, cap, L, e, e2, hr.mono hA, fun b hb' => (hB b hb').mono hA⟩
theorem WtR.none (A : Nat → Prop) (w : World) : WtR A w (.slice none 0 0) [] := ⟨Option.none, 0, [], rfl, rfl, RowV.none _ _ _, fun b hb => by cases hb⟩
end

theorem numd_len : ∀ (l : List ByteArray) (g : Nat), (numd g l).length = l.length
  | [], _ => rfl
  | s :: t, g => by rw [numd, List.length_cons, numd_len, List.length_cons]
theorem numd_at : ∀ (l : List ByteArray) (g k : Nat) (h : k < l.length), (numd g l)[k]? = some (g + k + 1, l[k])
  | s :: t, g, 0, _ => rfl
  | s :: t, g, k + 1, h => by
    rw [numd, List.getElem?_cons_succ, numd_at t (g + 1) k (by simpa using h), show g + 1 + k + 1 = g + (k + 1) + 1 by omega]
    rfl

set_option maxRecDepth 20000 in
set_option maxHeartbeats 4000000 in
theorem framed_go {A : Nat → Prop} {W : World} {g : Nat} {L : List Bd} {ao : Option Addr} {cap : Nat} {ss : List ByteArray} (hr : RowV A W ao cap L.length 2 (itC g L)) (hB : ∀ b ∈ L, BodyV A W b) (hl : L.length ≤ 1000) (hg : g ≤ 1000000)
    (hn : ss.length = L.length) (hss : ∀ k (h : k < L.length) (h2 : k < ss.length), ss[k] = wireD (g + k + 1, L[k].s)) :
    Calls Try.prog 18 #[.slice ao L.length cap] W (WtPost W ss) := by
  obtain ⟨i0, hi0, hz0, hz1, hz2⟩ := info_g Try.infoBs
  have R := Lib.hid hr
  have B := Lib.hid hB
  have SS := Lib.hid hss
  have NN := Lib.hid hn
  clear hr hB hss hn
  go_enter Try.func18, Try.ntmps18
  go_wp2_with fail
  go_loopw [3, 8] (fun c i wr => WtRel W ss c i wr) (fun _ i _ => L.length - (intOf i).toNat)
  case atStart => exact ⟨0, none, 0, [], Nat.zero_le _, rfl, rfl, rfl, World.ownsRow_nil .., (fun b h => by cases h), Below.refl _ _⟩
  case round =>
    obtain ⟨k, a, c, M, hk, rfl, rfl, e, hO, hM, hb⟩ := hrel
    rw [NN.out] at hk
    by_cases hlt : k < L.length
    · obtain ⟨x0, x1⟩ := itC_at k g L hlt
      obtain ⟨bk, off, rfl, hbW, _, k0⟩ := R.out.cell _ _ x0
      obtain ⟨b2, off2, e2, _, _, k1⟩ := R.out.cell _ _ x1
      cases e2
      have y0 : wr.cell? ⟨bk, off + k * 2, none⟩ = some (.int .u64 ((g + k + 1 : Nat) : Int)) := (hb.cell (p := ⟨bk, off + k * 2, none⟩) hbW).trans k0
      have y1 : wr.cell? ⟨bk, off + k * 2 + 1, none⟩ = some (.slice L[k].a L[k].s.size L[k].c) := (hb.cell (p := ⟨bk, off + k * 2 + 1, none⟩) hbW).trans k1
      have HB := Lib.hid hb
      have BK := Lib.hid ((B.out L[k] (List.getElem_mem _)).below hb)
      have hk2 : k < ss.length := by rw [NN.out]; exact hlt
      have SK := Lib.hid (SS.out k hlt hk2)
      have E := Lib.hid e
      have O := Lib.hid hO
      have HM := Lib.hid hM
      have kb : (k : Int) < (L.length : Int) := by omega
      have k0' : (0 : Int) ≤ (k : Int) := by omega
      clear hb e hO hM x0 x1 k0 k1
      obtain ⟨m, hm⟩ : ∃ m, g + k + 1 = m := ⟨_, rfl⟩
      have hmm : m < 18446744073709551616 := by omega
      rw [hm] at y0 SK
      have HMM := Lib.hid hmm
      clear hm hmm
      have HA := Lib.hid (show Below wr.heap.size wr (wr.alloc (.cells #[.int .u64 (m : Int), .slice L[k].a L[k].s.size L[k].c] 80)) from (Below.refl _ _).alloc (Nat.le_refl _) _)
      go_wp2_with (first
        | (go_at_call 35; refine (put_data (A := A) (b := L[k]) (k := m) (BK.out.below HA.out) HMM.out).mono ?_
           rintro e w1 ⟨b, he, hs1, hbd, hb1⟩
           unfold bdV at he
           subst he
           have hc1 : Below wr.heap.size wr w1 := HA.out.trans (hb1.mono HA.out.size)
           have HS1 := Lib.hid hs1
           have C1 := Lib.hid hc1
           have O1 := Lib.hid (own_below O.out hc1)
           have B1 := Lib.hid (HB.out.trans (hc1.mono HB.out.size))
           have BD := Lib.hid (hbd.mono (A' := fun j => wr.heap.size ≤ j) (fun j _ h => Nat.le_trans HA.out.size h))
           clear hs1 hbd hb1 hc1)
        | (at_builtin; refine wpList_append_at rfl (.tmp 12) (.tmp 19) 27 rfl W.heap.size 30 i0 _ 1 24 Try.underlying27 hi0 hz0 hz1 hz2 rfl (by decide) _ _ _ rfl (World.ownsRow.alloc O1.out _) (some ⟨w1.heap.size, 0, none⟩) 1 1 [.slice b.a b.s.size b.c] rfl rfl (fun e => by cases e) (fun ad e => by cases e; exact World.news_of_block (heap_alloc_new _ _)) (by simp [Value.oneCell']) (by unfold maxLen; omega) (by omega) (by have := B1.out.size; simp; omega) ?_
           intro v2 w2 hown2 hgr2 hat2
           obtain ⟨g2, cap2, rfl, _⟩ := hown2.form (by omega)
           have R2 := Lib.hid (wt_step (ss := ss) hk2 E.out HM.out HB.out O.out C1.out (HS1.out.trans SK.out.symm) BD.out (by rw [← HS1.out.trans SK.out.symm]; exact hown2) hgr2 (hat2 g2 rfl))
           clear hown2 hgr2 hat2))
      go_roundw
      case rel => exact R2.out
      case measure => simp only [intOf]; omega
    · obtain rfl : k = L.length := by omega
      have dk : decide ((L.length : Int) < (L.length : Int)) = false := decide_eq_false (by omega)
      have P := Lib.hid (wt_done (ss := ss) (a := a) (cap := c) (by rw [e, List.take_of_length_le (by rw [NN.out]; exact Nat.le_refl _)]) (by rw [NN.out]; exact hO) (by rw [NN.out]; exact hM) hb)
      rw [NN.out] at P
      clear e hO hM hb
      go_wp2_with fail
      go_ret
      exact P.out

/-- Items, framed. -/
theorem framed_any {A : Nat → Prop} {W : World} {v : Value} {g : Nat} {ss : List ByteArray} (h : ItR A W v g ss) (hl : ss.length ≤ 1000) (hg : g ≤ 1000000) : Calls Try.prog 18 #[v] W (WtPost W ((numd g ss).map wireD)) := by
  obtain ⟨a, cap, L, rfl, rfl, hr, hB⟩ := h
  rw [List.length_map] at hl
  refine framed_go hr hB hl hg (by rw [List.length_map, numd_len, List.length_map]) (fun k h1 h2 => ?_)
  have := numd_at (L.map Bd.s) g k (by rw [List.length_map]; exact h1)
  rw [List.getElem_map]
  rw [List.getElem?_eq_some_iff] at this
  obtain ⟨_, h3⟩ := this
  rw [h3, List.getElem_map]

end Go.Proofs.Ytfbojcaedcimcaa

/-
  One end sends, the other hears, over any net: what holds at each step. Without its memory.
-/
namespace Go.Proofs.Ytfbojcaedcimcaa

/-- The sender, the hearer, what is on its way there and back, what went on. -/
structure Net (S : Sh) (D : Dk) (X : List (Nat × ByteArray)) (K : List Nat) (got : List ByteArray) (n : Nat) : Prop where
  s : S.ok n
  n : n ≤ 500
  d : D.ok 600
  link : Link S D got
  x : ∀ x ∈ X, DataOk S x
  k : ∀ k ∈ K, AckOk D k
section
variable {S : Sh} {D : Dk} {X Y : List (Nat × ByteArray)} {K L : List Nat} {got : List ByteArray} {n : Nat}
theorem DataOk.size {x : Nat × ByteArray} (h : DataOk S x) (ho : S.ok n) : 1 ≤ x.1 ∧ x.1 ≤ n ∧ x.2.size ≤ 30000 := by
  have h1 := ho.last_le
  have h2 := h.1
  exact ⟨h.2.1, by omega, ho.small _ (List.mem_of_getElem? h.2.2)⟩
theorem Net.ackle (h : Net S D X K got n) {k : Nat} (hk : k ∈ K) : k ≤ S.last ∧ k ≤ 500 := by
  have h1 := h.k k hk
  have h2 := h.link.le h.s
  have h3 := h.s.last_le
  have h4 := h.n
  unfold AckOk at h1
  omega
theorem Net.sub (h : Net S D X K got n) (hx : ∀ x ∈ Y, x ∈ X) (hk : ∀ k ∈ L, k ∈ K) : Net S D Y L got n := ⟨h.s, h.n, h.d, h.link, fun x hY => h.x x (hx x hY), fun k hL => h.k k (hk k hL)⟩
theorem net_push {s : ByteArray} {r : Bool} (h : Net S D X K got n) (hn : n < 500) (hs : s.size ≤ 30000) : Net (S.pushed r s) D (X ++ numd S.last (S.pushI r s)) K got (n + 1) := by
  refine ⟨h.s.pushed (r := r) hs, hn, h.d, h.link.push h.s hs, fun x hx => ?_, h.k⟩
  rcases List.mem_append.1 hx with hx | hx
  · exact (h.x x hx).later (lat_pushed h.s hs)
  · exact lat_goes (goes_pushed h.s hs) x hx
theorem net_tick (h : Net S D X K got n) (hn : n < 500) : Net S.tick D (X ++ numd S.g S.tickI) K got (n + 1) := by
  refine ⟨h.s.tick, hn, h.d, h.link.tick h.s, fun x hx => ?_, h.k⟩
  rcases List.mem_append.1 hx with hx | hx
  · exact (h.x x hx).later (lat_tick S)
  · exact data_tick x hx
theorem net_hear {x : Nat × ByteArray} (h : Net S D X K got n) (hx : x ∈ X) :
    Net S (D.came x.1 x.2) X (K ++ [(D.came x.1 x.2).next - 1]) (got ++ D.gave x.1 x.2) n ∧ Came (D.came x.1 x.2) x.1 ∧ (∀ j, Came D j → Came (D.came x.1 x.2) j) ∧ D.next ≤ (D.came x.1 x.2).next := by
  obtain ⟨h1, h2, h3⟩ := h.link.hear h.s h.d (h.x x hx)
  have hle := h1.le h.s
  have hl := h.s.last_le
  have hn := h.n
  have hlen := h3.len
  have hnx := h3.next
  refine ⟨⟨h.s, h.n, ⟨h3.win, ⟨hnx.1, by omega⟩, h3.up⟩, h1, h.x, fun k hk => ?_⟩, came_hear (h.link.within (h.x x hx)), fun j hj => hj.mono, h2⟩
  unfold AckOk
  rcases List.mem_append.1 hk with hk | hk
  · have := h.k k hk
    unfold AckOk at this
    omega
  · rw [List.mem_singleton.1 hk]
    omega

/-- What the hearer has heard of those on their way: H. -/
structure Heard (S : Sh) (D : Dk) (X : List (Nat × ByteArray)) (K : List Nat) (got : List ByteArray) (n : Nat) (H : List (Nat × ByteArray)) : Prop where
  net : Net S D X K got n
  came : ∀ x ∈ H, Came D x.1
  said : H ≠ [] → D.next - 1 ∈ K
theorem heard_none (h : Net S D X K got n) : Heard S D X K got n [] := ⟨h, fun x hx => (by cases hx), fun h => absurd rfl h⟩
theorem heard_one {x : Nat × ByteArray} {H : List (Nat × ByteArray)} (h : Heard S D X K got n H) (hx : x ∈ X) :
    Heard S (D.came x.1 x.2) X (K ++ [(D.came x.1 x.2).next - 1]) (got ++ D.gave x.1 x.2) n (H ++ [x]) := by
  obtain ⟨h1, h2, h3, _⟩ := net_hear h.net hx
  refine ⟨h1, fun y hy => ?_, fun _ => List.mem_append_right _ (List.mem_singleton.2 rfl)⟩
  rcases List.mem_append.1 hy with hy | hy
  · exact h3 _ (h.came y hy)
  · rw [List.mem_singleton.1 hy]
    exact h2

/-- What the sender has heard of those on their way back: H. S1: it, ahead of them. -/
structure Told (S1 S : Sh) (D : Dk) (X : List (Nat × ByteArray)) (K : List Nat) (got : List ByteArray) (n : Nat) (H : List Nat) : Prop where
  net : Net S D X K got n
  sent : Sent S1 S X
  lat : Lat S1 S
  all : S.all = S1.all
  g : S1.g ≤ S.g
  told : ∀ j ∈ H, j ≤ S1.last → j ≤ S.g
  f : S1.pa.f = 1 → S.pa.f = 1 ∧ (1 ≤ S1.pa.l → S.pa.l ≤ S1.pa.l)
theorem told_none (h : Net S D X K got n) : Told S S D [] K got n [] :=
  ⟨h.sub (fun x hx => by cases hx) (fun _ h => h), fun k h1 h2 => absurd h1 (by omega), Lat.refl S, rfl, Nat.le_refl _, fun j hj => (by cases hj), fun h => ⟨h, fun _ => Nat.le_refl _⟩⟩
theorem told_one {S1 : Sh} {k : Nat} {H : List Nat} (h : Told S1 S D X K got n H) (hk : k ∈ K) : Told S1 (S.acked k) D (X ++ numd S.last (S.ackI k)) K got n (H ++ [k]) := by
  have hA := h.net.k _ hk
  have hl := lat_acked (k := k) h.net.s
  refine ⟨⟨h.net.s.acked, h.net.n, h.net.d, h.net.link.ack h.net.s hA, fun x hx => ?_, h.net.k⟩, sent_ack h.sent h.net.s, h.lat.trans hl, by rw [all_acked]; exact h.all, Nat.le_trans h.g g_acked.1, fun j hj hj2 => ?_, fun hf => ?_⟩
  · rcases List.mem_append.1 hx with hx | hx
    · exact (h.net.x x hx).later hl
    · exact lat_goes (goes_acked h.net.s) x hx
  · rcases List.mem_append.1 hj with hj | hj
    · exact Nat.le_trans (h.told j hj hj2) g_acked.1
    · rw [List.mem_singleton.1 hj] at hj2 ⊢
      exact g_acked.2 (Nat.le_trans hj2 h.lat.last)
  · obtain ⟨h1, h2⟩ := h.f hf
    by_cases hL : 1 ≤ S1.pa.l
    · exact ⟨(l_acked h1 hL (h2 hL)).2, fun _ => (l_acked h1 hL (h2 hL)).1⟩
    · refine ⟨?_, fun h => absurd h hL⟩
      unfold Sh.acked Sh.ack
      split
      · dsimp only
        split
        · exact h1
        · unfold Pa.start Pa.stop
          rw [if_pos rfl]
          exact h1
      · exact h1

/-- One good round wants one less. -/
theorem round_need {S3 : Sh} {X3 : List (Nat × ByteArray)} {m : Nat} {D2 : Dk} {K2 : List Nat} {got2 : List ByteArray} (h : Need S X (m + 1)) (hS : S.ok n) (hf : S.pa.f = 1)
    (hH : Heard S.tick D2 (X ++ numd S.g S.tickI) K2 got2 (n + 1) (X ++ numd S.g S.tickI)) (hT : Told S.tick S3 D2 X3 K2 got2 (n + 1) K2) : Need S3 X3 m := by
  have hle := hH.net.link.le hH.net.s
  have ht : S.tick.pa.f = 1 := by
    show S.pa.tick.f = 1
    unfold Pa.tick
    split
    · exact hf
    · split <;> exact hf
  refine need_round h hS hT.net.s hH.net.link hH.net.d hH.came hT.all hT.lat.win hT.sent hT.lat.last hT.g hT.net.link.g (fun hne => ?_) (hT.f ht).2
  have h1 := hH.said hne
  have h2 := hT.told _ h1 (by omega)
  have h3 := hH.net.d.next.1
  omega
end

end Go.Proofs.Ytfbojcaedcimcaa

/-
  Both ends send and hear: what holds at each step, each round. Without its memory.
-/
namespace Go.Proofs.Ytfbojcaedcimcaa

/-- A frame on its way. -/
structure Ms where
  a : Bool
  k : Nat
  s : ByteArray
def wireM (m : Ms) : ByteArray := if m.a then wireA m.k else wireD (m.k, m.s)
def dMs (X : List (Nat × ByteArray)) : List Ms := X.map fun x => ⟨false, x.1, x.2⟩
def aMs (k : Nat) : Ms := ⟨true, k, ⟨#[]⟩⟩
/-- The data, the acks among them. -/
def dM (M : List Ms) : List (Nat × ByteArray) := M.filterMap fun m => if m.a then none else some (m.k, m.s)
def aM (M : List Ms) : List Nat := M.filterMap fun m => if m.a then some m.k else none
theorem dM_app (M O : List Ms) : dM (M ++ O) = dM M ++ dM O := List.filterMap_append ..
theorem aM_app (M O : List Ms) : aM (M ++ O) = aM M ++ aM O := List.filterMap_append ..
theorem dM_dMs : ∀ X : List (Nat × ByteArray), dM (dMs X) = X ∧ aM (dMs X) = []
  | [] => ⟨rfl, rfl⟩
  | x :: t => by
    obtain ⟨h1, h2⟩ := dM_dMs t
    constructor
    · show x :: dM (dMs t) = _
      rw [h1]
    · show aM (dMs t) = []
      exact h2
theorem wire_dMs (X : List (Nat × ByteArray)) : (dMs X).map wireM = X.map wireD := by
  unfold dMs
  rw [List.map_map]
  rfl
theorem wire_aMs (k : Nat) : wireM (aMs k) = wireA k := rfl
theorem dM_one (m : Ms) : dM [m] = (if m.a then [] else [(m.k, m.s)]) ∧ aM [m] = if m.a then [m.k] else [] := by
  obtain ⟨a, k, s⟩ := m
  cases a <;> exact ⟨rfl, rfl⟩
theorem dM_mem {m : Ms} {M : List Ms} (h : m ∈ M) (ha : m.a = false) : (m.k, m.s) ∈ dM M := List.mem_filterMap.2 ⟨m, h, by rw [ha]; rfl⟩
theorem aM_mem {m : Ms} {M : List Ms} (h : m ∈ M) (ha : m.a = true) : m.k ∈ aM M := List.mem_filterMap.2 ⟨m, h, by rw [ha]; rfl⟩

/-- An end hears M, H of it so far; it has sent O. SP, DP: the other end. S1, D1: it, ahead of it. -/
structure Ears (SP : Sh) (DP : Dk) (S1 : Sh) (D1 : Dk) (M : List Ms) (n : Nat) (S : Sh) (D : Dk) (O : List Ms) (got gotP : List ByteArray) (H : List Ms) : Prop where
  h : Heard SP D (dM M) (aM O) got n (dM H)
  t : Told S1 S DP (dM O) (aM M) gotP n (aM H)
  ge : D1.next ≤ D.next
section
variable {SP S1 S : Sh} {DP D1 D : Dk} {M O H : List Ms} {got gotP : List ByteArray} {n : Nat}
theorem ears_none (h1 : Net SP D (dM M) [] got n) (h2 : Net S DP [] (aM M) gotP n) : Ears SP DP S D M n S D [] got gotP [] :=
  ⟨heard_none h1, told_none h2, Nat.le_refl _⟩
theorem ears_data {m : Ms} (h : Ears SP DP S1 D1 M n S D O got gotP H) (hm : m ∈ M) (ha : m.a = false) :
    Ears SP DP S1 D1 M n S (D.came m.k m.s) (O ++ [aMs ((D.came m.k m.s).next - 1)]) (got ++ D.gave m.k m.s) gotP (H ++ [m]) := by
  have hx := dM_mem hm ha
  have h1 := heard_one h.h hx
  obtain ⟨_, _, _, h4⟩ := net_hear h.h.net hx
  refine ⟨?_, ?_, Nat.le_trans h.ge h4⟩
  · rw [aM_app, dM_app, (dM_one m).1, ha]
    exact h1
  · rw [dM_app, aM_app, (dM_one m).2, ha]
    show Told S1 S DP (dM O ++ []) (aM M) gotP n (aM H ++ [])
    rw [List.append_nil, List.append_nil]
    exact h.t
theorem ears_ack {m : Ms} (h : Ears SP DP S1 D1 M n S D O got gotP H) (hm : m ∈ M) (ha : m.a = true) :
    Ears SP DP S1 D1 M n (S.acked m.k) D (O ++ dMs (numd S.last (S.ackI m.k))) got gotP (H ++ [m]) := by
  have hx := aM_mem hm ha
  have h1 := told_one h.t hx
  refine ⟨?_, ?_, h.ge⟩
  · rw [aM_app, dM_app, (dM_one m).1, ha, (dM_dMs _).2, List.append_nil]
    show Heard SP D (dM M) (aM O) got n (dM H ++ [])
    rw [List.append_nil]
    exact h.h
  · rw [dM_app, aM_app, (dM_one m).2, ha, (dM_dMs _).1]
    exact h1
end

/-- Both ends, what is on its way there and back, what went on at each. -/
structure Both (SX : Sh) (DX : Dk) (SY : Sh) (DY : Dk) (sx sy : List Ms) (gx gy : List ByteArray) (n : Nat) : Prop where
  xy : Net SX DY (dM sx) (aM sy) gy n
  yx : Net SY DX (dM sy) (aM sx) gx n
section
variable {SX SY SX' SY' : Sh} {DX DY DX' DY' : Dk} {sx sy sx' sy' : List Ms} {gx gy gx' gy' : List ByteArray} {n m : Nat}
theorem Both.earsY (h : Both SX DX SY DY sx sy gx gy n) : Ears SX DX SY DY sx n SY DY [] gy gx [] :=
  ears_none (h.xy.sub (fun _ h => h) (fun _ h => by cases h)) (h.yx.sub (fun _ h => by cases h) (fun _ h => h))
theorem Both.earsX (h : Both SX DX SY DY sx sy gx gy n) (hy : Ears SX DX SY DY sx n SY' DY' sy' gy' gx sx) : Ears SY DY' SX DX sy n SX DX [] gx gy' [] :=
  ears_none (h.yx.sub (fun _ h => h) (fun _ h => by cases h)) ⟨hy.h.net.s, hy.h.net.n, hy.h.net.d, hy.h.net.link, fun _ h => (by cases h), fun k hk => by
    have h1 := h.xy.k k hk
    have h2 := hy.ge
    unfold AckOk at h1 ⊢
    omega⟩
/-- Behind a round. -/
theorem both_next (h : Both SX DX SY DY sx sy gx gy n) (hy : Ears SX DX SY DY sx n SY' DY' sy' gy' gx sx) (hx : Ears SY DY' SX DX sy n SX' DX' sx' gx' gy' sy) :
    Both SX' DX' SY' DY' sx' sy' gx' gy' n ∧
    (∀ m, NeedB SX (dM sx) (aM sy) (m + 1) → NeedB SX' (dM sx') (aM sy') m) ∧
    ∀ m, NeedB SY (dM sy) (aM sx) (m + 1) → NeedB SY' (dM sy') (aM sx') m := by
  have hge := hx.ge
  refine ⟨⟨⟨hx.t.net.s, hx.t.net.n, hy.h.net.d, hx.t.net.link, hx.t.net.x, hy.h.net.k⟩, ⟨hy.t.net.s, hy.t.net.n, hx.h.net.d, ?_, hy.t.net.x, hx.h.net.k⟩⟩, fun m hm => ?_, fun m hm => ?_⟩
  · refine hx.h.net.link.later h.yx.s hy.t.net.s hy.t.lat ?_
    have := hy.t.net.link.g
    omega
  · exact both_round hm h.xy.s hx.t.net.s hy.h.net.link hy.h.net.d hy.h.came hx.t.net.k hx.t.all hx.t.lat.win hx.t.sent hx.t.lat.last hx.t.g hx.t.told hy.h.said
  · refine both_round hm h.yx.s hy.t.net.s hx.h.net.link hx.h.net.d hx.h.came (fun k hk => ?_) hy.t.all hy.t.lat.win hy.t.sent hy.t.lat.last hy.t.g hy.t.told hx.h.said
    have h1 := hy.t.net.k k hk
    unfold AckOk at h1 ⊢
    omega
end

end Go.Proofs.Ytfbojcaedcimcaa

/-
  Both ends send: the outset, a push, one that is heard. Without its memory.
-/
namespace Go.Proofs.Ytfbojcaedcimcaa

theorem numd_len0 : ∀ (l : List ByteArray) (g : Nat), (numd g l).length = l.length
  | [], _ => rfl
  | s :: t, g => by rw [numd, List.length_cons, numd_len0, List.length_cons]
theorem strB_len (l : List Nat) : (strB l).size = l.length := by
  rw [← bsN_len]
  unfold bsN strB
  rw [strOfNums_data]
  simp
theorem pushed_same {S : Sh} {r : Bool} {s : ByteArray} : (S.pushed r s).g = S.g ∧ (S.pushed r s).que = S.que ∧ (S.pushed r s).win = S.win := by
  unfold Sh.pushed
  split <;> exact ⟨rfl, rfl, rfl⟩
theorem room_few {S : Sh} {r : Bool} (hq : S.waits.length + 1 < S.que) : S.room r = true := by
  unfold Sh.room
  refine decide_eq_true ?_
  cases r
  · simp; omega
  · simp; omega
theorem fresh_push {S : Sh} {X : List (Nat × ByteArray)} {n : Nat} {r : Bool} {s : ByteArray} (h : Fresh S X) (ho : S.ok n) (hs : s.size ≤ 30000) : Fresh (S.pushed r s) (X ++ numd S.last (S.pushI r s)) := by
  intro k h1 h2
  rw [pushed_same.1] at h1
  have hg := (goes_pushed (r := r) ho hs).1
  rcases Nat.lt_or_ge S.last k with h3 | h3
  · obtain ⟨q, hq⟩ := numd_has (S.pushI r s) S.last k h3 (by omega)
    exact ⟨q, List.mem_append_right _ hq⟩
  · obtain ⟨q, hq⟩ := h k h1 h3
    exact ⟨q, List.mem_append_left _ hq⟩

theorem Net.more {S : Sh} {D : Dk} {X : List (Nat × ByteArray)} {K : List Nat} {got : List ByteArray} {n m : Nat} (h : Net S D X K got n) (hm : n ≤ m) (h5 : m ≤ 500) : Net S D X K got m := ⟨h.s.more hm, h5, h.d, h.link, h.x, h.k⟩
theorem Both.more {SX SY : Sh} {DX DY : Dk} {sx sy : List Ms} {gx gy : List ByteArray} {n m : Nat} (h : Both SX DX SY DY sx sy gx gy n) (hm : n ≤ m) (h5 : m ≤ 500) : Both SX DX SY DY sx sy gx gy m := ⟨h.xy.more hm h5, h.yx.more hm h5⟩
theorem Both.swap {SX SY : Sh} {DX DY : Dk} {sx sy : List Ms} {gx gy : List ByteArray} {n : Nat} (h : Both SX DX SY DY sx sy gx gy n) : Both SY DY SX DX sy sx gy gx n := ⟨h.yx, h.xy⟩
theorem both_push {SX SY : Sh} {DX DY : Dk} {sx sy : List Ms} {gx gy : List ByteArray} {n : Nat} {r : Bool} {s : ByteArray} (h : Both SX DX SY DY sx sy gx gy n) (hn : n < 500) (hs : s.size ≤ 30000) :
    Both (SX.pushed r s) DX SY DY (sx ++ dMs (numd SX.last (SX.pushI r s))) sy gx gy (n + 1) := by
  refine ⟨?_, ?_⟩
  · rw [dM_app, (dM_dMs _).1]
    exact net_push h.xy hn hs
  · rw [aM_app, (dM_dMs _).2, List.append_nil]
    exact h.yx.more (Nat.le_succ n) hn
theorem net_first {w q f m : Nat} (hw : 1 ≤ w ∧ w ≤ 16) (hq : 2 ≤ q ∧ q ≤ 32) (hf : 1 ≤ f ∧ f ≤ m ∧ m ≤ 1000) : Net (Sh.new w q f m) (Dk.new w) [] [] [] 0 := by
  refine ⟨Sh.new_ok hw hq hf, by omega, ⟨hw, ⟨Nat.le_refl _, by show 1 + 0 ≤ 601; omega⟩, up_nil _ _⟩, ⟨⟨rfl, Nat.zero_le _, fun x hx => (by cases hx)⟩, Nat.le_refl _, rfl, rfl⟩, fun x hx => (by cases hx), fun k hk => (by cases hk)⟩
theorem both_first {w q f m : Nat} (hw : 1 ≤ w ∧ w ≤ 16) (hq : 2 ≤ q ∧ q ≤ 32) (hf : 1 ≤ f ∧ f ≤ m ∧ m ≤ 1000) : Both (Sh.new w q f m) (Dk.new w) (Sh.new w q f m) (Dk.new w) [] [] [] [] 0 := ⟨net_first hw hq hf, net_first hw hq hf⟩

/-- How many a frame's bytes can be. -/
theorem wire_len {f : Frm} (hn : f.num < 18446744073709551616) : (strB (bytesF f)).size ≤ 1000000 := by
  rw [strB_len]
  unfold bytesF
  split
  · rename_i h
    have := (putF_len hn h).2
    omega
  · exact Nat.zero_le _

section
variable {SP S1 S : Sh} {DP D1 D : Dk} {M O H : List Ms} {got gotP : List ByteArray} {n : Nat}
/-- One more of the row is heard. -/
theorem ears_hear {m : Ms} (h : Ears SP DP S1 D1 M n S D O got gotP H) (hm : m ∈ M) : okB (wireM m) = true ∧ (wireM m).size ≤ 1000000 ∧ ∃ S' D' O1 up, (⟨S, D⟩ : Te).hear true (gotB (wireM m)) = ⟨S', D'⟩ ∧ (⟨S, D⟩ : Te).up true (gotB (wireM m)) = up ∧
    (⟨S, D⟩ : Te).down true (gotB (wireM m)) = O1.map wireM ∧ Ears SP DP S1 D1 M n S' D' (O ++ O1) (got ++ up) gotP (H ++ [m]) ∧ (dM O1).length + S.last = S'.last ∧ (aM O1).length = (dM [m]).length ∧ up.length + got.length ≤ n := by
  have hgl : ∀ {S : Sh} {D : Dk} {X : List (Nat × ByteArray)} {K : List Nat} {got : List ByteArray} {n : Nat}, Net S D X K got n → got.length ≤ n := fun hh => by
    rw [hh.link.got, List.length_take]
    have := hh.s.all
    omega
  cases ha : m.a
  · have hx := dM_mem hm ha
    have hk := (h.h.net.x _ hx).size h.h.net.s
    have hn := h.h.net.n
    have e : wireM m = wireD (m.k, m.s) := by unfold wireM; rw [ha]; rfl
    obtain ⟨e1, e2, e3⟩ := Te.hear_data ⟨S, D⟩ (x := (m.k, m.s)) hk.1 (by have := hk.2.1; omega) hk.2.2
    obtain ⟨e4, _⟩ := wire_data (x := (m.k, m.s)) hk.1 (by have := hk.2.1; omega) hk.2.2
    rw [e4] at e1 e2 e3
    rw [e]
    have hE := ears_data h hm ha
    refine ⟨e4, wire_len (f := dataFm (m.k, m.s)) (by show m.k < _; have := hk.2.1; simp only at this; omega), S, D.came m.k m.s, [aMs ((D.came m.k m.s).next - 1)], D.gave m.k m.s, e1, e2, e3, hE, ?_, ?_, ?_⟩
    · rw [(dM_one _).1]
      simp [aMs]
    · rw [(dM_one m).1, (dM_one (aMs _)).2, ha]
      rfl
    · have := hgl hE.h.net
      rw [List.length_append] at this
      omega
  · have hx := aM_mem hm ha
    have hk := (h.t.net.ackle hx)
    have e : wireM m = wireA m.k := by unfold wireM; rw [ha]; rfl
    obtain ⟨e1, e2, e3⟩ := Te.hear_ack ⟨S, D⟩ (k := m.k) (by omega)
    obtain ⟨e4, _⟩ := wire_ack (k := m.k) (by omega)
    rw [e4] at e1 e2 e3
    rw [e]
    have hE := ears_ack h hm ha
    have hg := (goes_acked (k := m.k) h.t.net.s).1
    refine ⟨e4, wire_len (f := ackFm m.k) (by show m.k < _; omega), S.acked m.k, D, dMs (numd S.last (S.ackI m.k)), [], e1, e2, by rw [wire_dMs]; exact e3, by rw [List.append_nil]; exact hE, ?_, ?_, ?_⟩
    · rw [(dM_dMs _).1, numd_len0]
      omega
    · rw [(dM_dMs _).2, (dM_one m).1, ha]
      rfl
    · have := hgl hE.h.net
      simpa using this
end

end Go.Proofs.Ytfbojcaedcimcaa
