/-
  Texts of this claim, put together.
-/
import Derived.Test.YtopnagjbdjicaaaMak
import Derived.Test.YtopnagjbdjicaaaMal
import Derived.Test.YtopnagjbdjicaaaMai
import Derived.Test.YtopnagjbdjicaaaMah
import Derived.Test.YtopnagjbdjicaaaCmtm

/-
  Squares as bytes: the document's own.
-/
namespace Go.Proofs.Ytopnagjbdjicaaa
open Go.RowKit

/-- What a writer has, as a slice. -/
theorem WrOn.slice {W w : World} {N p : Nat} {bs : List Nat} (h : WrOn W N p bs w) : ∃ a cap, w.cell? ⟨p, 0, none⟩ = some (.slice a bs.length cap) ∧ SlAt bV 256 w a cap bs ∧ ∀ ad, a = some ad → N ≤ ad.block := by
  obtain ⟨⟨F, v, hV⟩, -⟩ := h
  obtain ⟨a, cap, rfl, hs⟩ := hV.slice
  exact ⟨a, cap, hV.cell, hs, fun ad e => (hV.own.lt ad.block (by rw [e]; rfl)).1⟩
theorem row_at {m : List (List Nat)} {n k : Nat} (hl : m.length = n) (hr : ∀ r ∈ m, r.length = n) (hk : k < n) : ∃ r, m.getD k [] = r ∧ m[k]? = some r ∧ r.length = n ∧ r ∈ m := by
  have h : k < m.length := by omega
  exact ⟨m[k], by rw [List.getD, List.getElem?_eq_getElem h]; rfl, List.getElem?_eq_getElem h, hr _ (List.getElem_mem _), List.getElem_mem _⟩
theorem stamp_room {m : List (List Nat)} {n k q : Nat} {r : List Nat} (hl : m.length = n) (hn : n ≤ 16) (hr : ∀ r ∈ m, r.length = n) (hq : ∀ r ∈ m, ∀ x ∈ r, x < QM) (h : r ∈ m) : (stampL (m.take k) ++ rowL (r.take q)).length ≤ 1000000 := by
  have h1 := stampL_len (m := m.take k) (n := 16) (fun r h => by have := hr r (List.mem_of_mem_take h); omega) (fun r h => hq r (List.mem_of_mem_take h))
  have h2 := rowL_len (r := r.take q) (fun x hx => hq r h x (List.mem_of_mem_take hx))
  have h3 : (m.take k).length ≤ 16 := by rw [List.length_take]; omega
  have h4 : (r.take q).length ≤ 16 := by rw [List.length_take, hr r h]; omega
  rw [List.length_append]
  have h5 : 10 * 16 * (m.take k).length ≤ 10 * 16 * 16 := Nat.mul_le_mul_left _ h3
  omega

set_option maxRecDepth 20000 in
set_option maxHeartbeats 4000000 in
theorem rstamp_at {A : Nat → Prop} {W : World} {a : Option Addr} {cap n : Nat} {m : List (List Nat)} {z : Int} (h : SqAt A W a cap n m) {L : List Nat} (hL : (if goodM z m = true then stampL m else []) = L) :
    Calls Try.prog 29 #[.int .i64 z, .slice a n cap] W fun e w' => ∃ a' c', e = .returned (.slice a' L.length c') ∧ SlAt bV 256 w' a' c' L ∧ Below W.heap.size W w' ∧ ∀ ad, a' = some ad → W.heap.size ≤ ad.block := by
  obtain ⟨g, hg⟩ : ∃ b, b = goodM z m := ⟨_, rfl⟩
  have CG := Lib.hid (rgood_at (z := z) h hg.symm)
  have HG := Lib.hid hg.symm
  have HL := Lib.hid hL
  have S := Lib.hid h
  clear hg hL h
  cases g
  · go_enter Try.func29, Try.ntmps29
    go_wp2_with fail
    refine CG.out.mono ?_
    rintro e w' ⟨rfl, rfl⟩
    obtain rfl : L = [] := by rw [← HL.out, HG.out]; rfl
    go_wp2_with fail
    go_ret
    exact ⟨none, 0, rfl, SlAt.none _ _ _, Below.refl _ _, fun ad e => by cases e⟩
  · obtain ⟨N, rfl, hN1, hN2, hN3, hN4⟩ := goodM_is HG.out
    obtain rfl : N = n := by rw [← hN3, S.out.len]
    obtain rfl : stampL m = L := by rw [← HL.out, HG.out]; rfl
    have W0 := Lib.hid (show WrOn W W.heap.size W.heap.size [] (W.alloc (.cells #[.slice none 0 0] 109)) from ⟨⟨_, _, new_wr W W.heap.size (Nat.le_refl _) _⟩, below_alloc (Below.refl _ _) _⟩)
    have LT := Lib.hid S.out.lt
    have H3 := Lib.hid hN3
    have H4 := Lib.hid hN4
    clear hN3 hN4 HL
    go_enter Try.func29, Try.ntmps29
    go_wp2_with fail
    refine CG.out.mono ?_
    rintro e w' ⟨rfl, rfl⟩
    clear CG
    go_wp2_with fail
    go_loopw [6] (fun i wr => ∃ k : Nat, k ≤ N ∧ i = .int .i64 (k : Nat) ∧ WrOn W W.heap.size W.heap.size (stampL (m.take k)) wr) (fun i _ => N - (intOf i).toNat)
    case atStart => exact ⟨0, Nat.zero_le _, rfl, W0.out⟩
    case round =>
      obtain ⟨k, hk, rfl, hO⟩ := hrel
      have O := Lib.hid hO
      clear hO W0
      by_cases hlt : k < N
      · obtain ⟨r, er, er2, lr, mr⟩ := row_at H3.out H4.out hlt
        have i0 : (0 : Int) ≤ (k : Int) := by omega
        have i1 : (k : Int) < (N : Int) := by omega
        have ST := Lib.hid (show stampL (m.take (k + 1)) = stampL (m.take k) ++ rowL r from by
          have h1 : k < m.length := by rw [H3.out]; exact hlt
          rw [stampL_take h1]
          rw [List.getElem?_eq_getElem h1] at er2
          cases er2
          rfl)
        have MR := Lib.hid mr
        have LR := Lib.hid lr
        have ER := Lib.hid er
        clear er er2 lr mr
        go_wp2_with fail
        go_loopw [7] (fun i wr => ∃ q : Nat, q ≤ N ∧ i = .int .i64 (q : Nat) ∧ WrOn W W.heap.size W.heap.size (stampL (m.take k) ++ rowL (r.take q)) wr) (fun i _ => N - (intOf i).toNat)
        case atStart => exact ⟨0, Nat.zero_le _, rfl, by rw [List.take_zero]; simpa [rowL] using O.out⟩
        case round =>
          obtain ⟨q, hq, rfl, hO⟩ := hrel
          have P := Lib.hid hO
          clear hO O
          by_cases hlq : q < N
          · obtain ⟨b, off, ra, rc, rfl, hc, hs⟩ := (S.out.below P.out.2).row hlt
            rw [ER.out] at hc hs
            obtain ⟨b2, off2, rfl, -, hc2⟩ := hs.at (i := q) (by rw [LR.out]; exact hlq)
            rw [LR.out] at hc
            have hc2' : wr.cell? ⟨b2, off2 + q, none⟩ = some (.int .u64 ((atN r q : Nat) : Int)) := hc2
            have j0 : (0 : Int) ≤ (q : Int) := by omega
            have j1 : (q : Int) < (N : Int) := by omega
            have CN := Lib.hid (ron_num (n := atN r q) P.out rfl (atN_lt (by decide) hs.lt q) (stamp_room H3.out hN2 H4.out LT.out MR.out))
            have NX := Lib.hid (show stampL (m.take k) ++ rowL (r.take q) ++ lebL (atN r q) = stampL (m.take k) ++ rowL (r.take (q + 1)) from by
              rw [List.append_assoc, rowL_take (by rw [LR.out]; exact hlq), atN_of (by rw [LR.out]; exact hlq)])
            rw [NX.out] at CN
            clear hs hc2 P
            generalize atN r q = v at *
            go_wp2_with (go_at_call 60; refine CN.out.mono ?_; rintro e w2 ⟨rfl, hO2⟩; have O2 := Lib.hid hO2; clear hO2)
            go_roundw
            case rel => exact ⟨q + 1, by omega, by go_num, O2.out⟩
            case measure => simp only [intOf]; omega
          · obtain rfl : q = N := by omega
            have dq : decide ((q : Int) < (q : Int)) = false := decide_eq_false (by omega)
            have O3 := Lib.hid (show WrOn W W.heap.size W.heap.size (stampL (m.take (k + 1))) wr from by
              have := P.out
              rw [List.take_of_length_le (show r.length ≤ q from Nat.le_of_eq LR.out)] at this
              rw [ST.out]; exact this)
            clear P
            go_wp2_with fail
            go_roundw
            case rel => exact ⟨k + 1, by omega, by go_num, O3.out⟩
            case measure => simp only [intOf]; omega
      · obtain rfl : k = N := by omega
        have dk : decide ((k : Int) < (k : Int)) = false := decide_eq_false (by omega)
        have P := O.out
        rw [List.take_of_length_le (by rw [H3.out]; exact Nat.le_refl _)] at P
        obtain ⟨sa, sc, hc, hs, hf⟩ := P.slice
        have R := Lib.hid (And.intro hs (And.intro P.2 hf))
        clear P hs O hf
        go_wp2_with fail
        go_ret
        exact ⟨_, _, rfl, R.out⟩

end Go.Proofs.Ytopnagjbdjicaaa

/-
  Bytes as squares: the document's own.
-/
namespace Go.Proofs.Ytopnagjbdjicaaa
open Go.RowKit

/-- One more row, that lies apart. -/
theorem OwnSq.push2 {T : TypeId} {B : Nat} {w w2 w3 : World} {s s' : Value} {L : List Rd} {a : Option Addr} {c : Nat} {xs : List Nat} (h : OwnSq T B w s L) (hr : w.ownsRow B 29 1 (.slice a xs.length c) xs.length (xs.map qV)) (hx : ∀ x ∈ xs, x < QM)
    (hu : ∀ r ∈ L, ∀ g, bkR r = some g → (Value.slice a xs.length c).ownBlock ≠ some g) (hs : ∀ g, (Value.slice a xs.length c).ownBlock = some g → s.ownBlock ≠ some g)
    (h2 : Below w.heap.size w w2) (hown : w3.ownsRow B T 1 s' (L.length + 1) (L.map rdV ++ [.slice a xs.length c])) (hgr : w2.grownBy w3 s.ownBlock) (hat : ∀ j, s'.ownBlock = some j → s.ownBlock = some j ∨ w2.heap.size ≤ j) :
    OwnSq T B w3 s' (L ++ [⟨a, c, xs⟩]) := by
  have sz2 := h2.size
  have b3 : ∀ k, k < w2.heap.size → s.ownBlock ≠ some k → w3.heap[k]? = w2.heap[k]? := fun k hk hn => hgr.block k hk (fun e => hn e.symm)
  have old : ∀ r ∈ L, ∀ k, bkR r = some k → k < w.heap.size := fun r hr k e => ((h.row r hr).lt k e).2
  have new : ∀ k, (Value.slice a xs.length c).ownBlock = some k → k < w.heap.size := fun k e => (hr.lt k e).2
  have snew : ∀ k, k < w2.heap.size → s.ownBlock ≠ some k → s'.ownBlock ≠ some k := fun k hk hn e => (hat k e).elim hn (fun h => by omega)
  refine ⟨?_, ?_, ?_, ?_, ?_⟩
  · rw [List.length_append, List.map_append]
    exact hown
  · intro r hr'
    rcases List.mem_append.1 hr' with hr' | hr'
    · refine own_carry (h.row r hr') fun k e => ?_
      have hk := old r hr' k e
      rw [b3 k (by omega) (h.aw r hr' k e), h2.block k hk]
    · rw [List.mem_singleton.1 hr']
      refine own_carry hr fun k e => ?_
      have hk := new k e
      rw [b3 k (by omega) (hs k e), h2.block k hk]
  · intro r hr'
    rcases List.mem_append.1 hr' with hr' | hr'
    · exact h.lt r hr'
    · rw [List.mem_singleton.1 hr']; exact hx
  · rw [List.map_append, List.pairwise_append]
    refine ⟨h.ap, by simp, fun x hx' y hy => ?_⟩
    obtain ⟨r, hr', rfl⟩ := List.mem_map.1 hx'
    obtain ⟨q, hq, rfl⟩ := List.mem_map.1 hy
    rw [List.mem_singleton.1 hq]
    exact fun g e => hu r hr' g e
  · intro r hr'
    rcases List.mem_append.1 hr' with hr' | hr'
    · intro g e
      have := old r hr' g e
      exact snew g (by omega) (h.aw r hr' g e)
    · rw [List.mem_singleton.1 hr']
      intro g e
      have := new g e
      exact snew g (by omega) (hs g e)

/-- A square that is read: the rows so far (L), the row under way (vs), the reader. -/
structure RmS (W wo wr : World) (S : Nat → Prop) (s : Option (List Nat)) (v : Value) (vs : List Nat) (ms : Value) (L : List Rd) : Prop where
  rd : RdAt wr W.heap.size S s
  b : Below W.heap.size W wr
  row : wr.ownsRow wo.heap.size 29 1 v vs.length (vs.map qV)
  lt : ∀ x ∈ vs, x < QM
  sq : OwnSq 41 (W.heap.size + 1) wr ms L
  o1 : ∀ k, ms.ownBlock = some k → k < wo.heap.size
  o2 : ∀ r ∈ L, ∀ k, bkR r = some k → k < wo.heap.size
  sz : W.heap.size + 1 ≤ wo.heap.size
  sz2 : wo.heap.size ≤ wr.heap.size
  S : ∀ k, S k → k < W.heap.size

theorem RmS.num {W wo wr w' : World} {S : Nat → Prop} {s s' : Option (List Nat)} {v : Value} {vs : List Nat} {ms : Value} {L : List Rd} (h : RmS W wo wr S s v vs ms L) (hr : RdAt w' W.heap.size S s') (hk : Keep (fun k => k = W.heap.size) wr w') : RmS W wo w' S s' v vs ms L := by
  have hb : Below W.heap.size W w' := h.b.trans (hk.below h.b.size (fun k e => Nat.le_of_eq e.symm))
  have h1 := h.sz
  have h2 := h.sz2
  refine ⟨hr, hb, own_carry h.row fun k e => ?_, h.lt, h.sq.carry (fun k e => ?_) (fun r hr' k e => ?_), h.o1, h.o2, h.sz, Nat.le_trans h.sz2 hk.size, h.S⟩
  · have := h.row.lt k e
    exact hk.block k this.2 (by omega)
  · have := h.sq.out.lt k e
    exact hk.block k this.2 (by omega)
  · have := (h.sq.row r hr').lt k e
    exact hk.block k this.2 (by omega)
theorem RmS.below {W wo wr w' : World} {S : Nat → Prop} {s : Option (List Nat)} {v : Value} {vs : List Nat} {ms : Value} {L : List Rd} (h : RmS W wo wr S s v vs ms L) (hb : Below wr.heap.size wr w') : RmS W wo w' S s v vs ms L :=
  ⟨h.rd.below hb, h.b.trans (hb.mono h.b.size), own_below h.row hb, h.lt, h.sq.below hb, h.o1, h.o2, h.sz, Nat.le_trans h.sz2 hb.size, h.S⟩
/-- The row has grown. -/
theorem RmS.more {W wo wr w2 : World} {S : Nat → Prop} {s : Option (List Nat)} {v v2 : Value} {vs : List Nat} {ms : Value} {L : List Rd} {x : Nat} (h : RmS W wo wr S s v vs ms L) (hx : x < QM) (hown : w2.ownsRow wo.heap.size 29 1 v2 (vs.length + 1) (vs.map qV ++ [qV x])) (hgr : wr.grownBy w2 v.ownBlock) : RmS W wo w2 S s v2 (vs ++ [x]) ms L := by
  have kk : Keep (fun j => v.ownBlock = some j) wr w2 := (Keep.refl _ _).grown hgr (fun j h => Or.inl h)
  have h1 := h.sz
  have h2 := h.sz2
  have lo : ∀ j, v.ownBlock = some j → wo.heap.size ≤ j := fun j e => (h.row.lt j e).1
  refine ⟨h.rd.keep kk (fun e => by have := lo _ e; omega) (fun k hk e => by have := lo _ e; have := h.S k hk; omega), h.b.trans (kk.below h.b.size (fun k e => by have := lo k e; omega)), by simpa using hown, fun y hy => ?_, h.sq.carry (fun k e => ?_) (fun r hr' k e => ?_), h.o1, h.o2, h.sz, Nat.le_trans h.sz2 kk.size, h.S⟩
  · rcases List.mem_append.1 hy with hy | hy
    · exact h.lt y hy
    · rw [List.mem_singleton.1 hy]; exact hx
  · have := h.sq.out.lt k e
    exact kk.block k this.2 (fun e2 => by have := lo k e2; have := h.o1 k e; omega)
  · have := (h.sq.row r hr').lt k e
    exact kk.block k this.2 (fun e2 => by have := lo k e2; have := h.o2 r hr' k e; omega)
/-- The row is laid behind the others. -/
theorem RmS.push {W wo wr w2 w3 : World} {S : Nat → Prop} {s : Option (List Nat)} {a : Option Addr} {c : Nat} {vs : List Nat} {ms ms' : Value} {L : List Rd} (h : RmS W wo wr S s (.slice a vs.length c) vs ms L) (h2 : Below wr.heap.size wr w2)
    (hown : w3.ownsRow (W.heap.size + 1) 41 1 ms' (L.length + 1) (L.map rdV ++ [.slice a vs.length c])) (hgr : w2.grownBy w3 ms.ownBlock) (hat : ∀ j, ms'.ownBlock = some j → ms.ownBlock = some j ∨ w2.heap.size ≤ j) :
    RmS W w3 w3 S s (.slice none 0 0) [] ms' (L ++ [⟨a, c, vs⟩]) := by
  have h1 := h.sz
  have h3 := h.sz2
  have kk : Keep (fun j => ms.ownBlock = some j) w2 w3 := (Keep.refl _ _).grown hgr (fun j h => Or.inl h)
  have k0 : Keep (fun j => ms.ownBlock = some j) wr w3 := (Keep.ofBelow (F := fun j => ms.ownBlock = some j) h2).trans kk (fun i _ e => e)
  have lo : ∀ j, ms.ownBlock = some j → W.heap.size + 1 ≤ j := fun j e => (h.sq.out.lt j e).1
  have hq := h.sq.push2 (own_mono h.row h.sz) h.lt (fun r hr g e e2 => by have := h.o2 r hr g e; have := (h.row.lt g e2).1; omega) (fun g e e2 => by have := h.o1 g e2; have := (h.row.lt g e).1; omega) h2 hown hgr hat
  have s3 := k0.size
  exact ⟨h.rd.keep k0 (fun e => by have := lo _ e; omega) (fun k hk e => by have := lo _ e; have := h.S k hk; omega), h.b.trans (k0.below h.b.size (fun k e => by have := lo k e; omega)), World.ownsRow_nil _ _ _ _, by simp, hq, fun k e => (hq.out.lt k e).2, fun r hr k e => ((hq.row r hr).lt k e).2, by omega, Nat.le_refl _, h.S⟩

/-- What is read: the square, or none. -/
def RmPost (W : World) (o : Option (List (List Nat))) (e : Ending) (w' : World) : Prop := match o with
  | some m => ∃ a' c', e = .returned (.tuple #[.slice a' m.length c', .bool true]) ∧ SqR (fun _ => False) W m.length m a' c' w'
  | none => e = .returned (.tuple #[.slice none 0 0, .bool false]) ∧ Below W.heap.size W w'

set_option maxRecDepth 20000 in
set_option maxHeartbeats 8000000 in
theorem rread_at {W : World} {ao : Option Addr} {cap len : Nat} {bs : List Nat} {z : Int} (hs : SlAt bV 256 W ao cap bs) (hlen : bs.length = len) {o : Option (List (List Nat))} (ho : readM z bs = o) :
    Calls Try.prog 28 #[.int .i64 z, .slice ao len cap] W (RmPost W o) := by
  obtain ⟨i0, hi0, hz0, hz1, hz2⟩ := info_v Try.infoR
  obtain ⟨q0, hq0, hy0, hy1, hy2⟩ := info_q Try.infoQ
  by_cases hz : 1 ≤ z ∧ z ≤ 16
  · obtain ⟨N, rfl⟩ : ∃ n : Nat, z = n := ⟨z.toNat, by omega⟩
    have hN1 : 1 ≤ N := by omega
    have hN2 : N ≤ 16 := by omega
    rw [readM_yes hN1 hN2] at ho
    have HO := Lib.hid ho
    clear ho
    have d1 : decide ((N : Int) < 1) = false := decide_eq_false (by omega)
    have d2 : decide ((N : Int) > 16) = false := decide_eq_false (by omega)
    have d3 : decide (N < 1) = false := decide_eq_false (by omega)
    have d4 : decide (16 < N) = false := decide_eq_false (by omega)
    subst hlen
    have RB := rd_box (t := 106) hs (Below.refl _ W)
    obtain ⟨w0, hw0⟩ : ∃ w0, w0 = W.alloc (.cells #[.slice ao bs.length cap, .bool false] 106) := ⟨_, rfl⟩
    rw [← hw0] at RB
    have I0 := Lib.hid (show RmS W w0 w0 (fun k => k < W.heap.size) (matR N 0 (some bs)).2 (.slice none 0 0) [] (.slice none 0 0) [] from
      ⟨RB, by rw [hw0]; exact below_alloc (Below.refl _ _) _, World.ownsRow_nil _ _ _ _, by simp, OwnSq.nil _, (fun k e => by simp [Value.ownBlock] at e), by simp, by rw [hw0]; simp, Nat.le_refl _, fun k h => h⟩)
    have HW0 := Lib.hid hw0.symm
    clear hz hs RB hw0
    go_enter Try.func28, Try.ntmps28
    go_wp2_with fail
    rw [HW0.out]
    clear HW0
    go_loopw [7, 8] (fun ms i wr => ∃ (k : Nat) (L : List Rd), k ≤ N ∧ i = .int .i64 (k : Nat) ∧ L.length = k ∧ mOf L = (matR N k (some bs)).1 ∧ RmS W wr wr (fun k => k < W.heap.size) (matR N k (some bs)).2 (.slice none 0 0) [] ms L) (fun _ i _ => N - (intOf i).toNat)
    case atStart => exact ⟨0, [], Nat.zero_le _, rfl, rfl, rfl, I0.out⟩
    case round =>
      obtain ⟨k, L, hk, rfl, hl, hm, hR⟩ := hrel
      obtain ⟨sa, sc, rfl⟩ := own_form hR.sq.out
      rw [hl] at hR ⊢
      have R := Lib.hid hR
      have HL := Lib.hid hl
      have HM := Lib.hid hm
      clear hR I0 hl hm
      by_cases hlt : k < N
      · obtain ⟨sk, hsk⟩ : ∃ sk, sk = (matR N k (some bs)).2 := ⟨_, rfl⟩
        rw [← hsk] at R
        have HSK := Lib.hid hsk
        clear hsk
        have hk8 : k ≤ 16 := by omega
        obtain ⟨wq, hwq⟩ : ∃ wq, wq = wr := ⟨_, rfl⟩
        subst hwq
        go_wp2_with fail
        go_loopw [9, 10] (fun v i w2 => ∃ q : Nat, q ≤ N ∧ i = .int .i64 (q : Nat) ∧ RmS W wq w2 (fun k => k < W.heap.size) (rowR q sk).2 v (rowR q sk).1 (.slice sa k sc) L) (fun _ i _ => N - (intOf i).toNat)
        case atStart => exact ⟨0, Nat.zero_le _, rfl, R.out⟩
        case round =>
          obtain ⟨q, hq, rfl, hR2⟩ := hrel
          have hvl := rowR_len q sk
          obtain ⟨va, vc, rfl⟩ := own_form hR2.row
          rw [hvl] at hR2 ⊢
          have R2 := Lib.hid hR2
          have VL := Lib.hid hvl
          clear hR2 hvl R
          by_cases hlq : q < N
          · have CN := Lib.hid (rrnum_any wr W.heap.size _ _ 18446744073709551615 R2.out.rd)
            have VS := Lib.hid (show (rowR (q + 1) sk).1 = (rowR q sk).1 ++ [(numR 18446744073709551615 (rowR q sk).2).1] ∧ (rowR (q + 1) sk).2 = (numR 18446744073709551615 (rowR q sk).2).2 from ⟨rfl, rfl⟩)
            have XL := Lib.hid (numR_lt 18446744073709551615 (rowR q sk).2)
            have NX := Lib.hid (fun (w' : World) (hr : RdAt w' W.heap.size (fun k => k < W.heap.size) (numR 18446744073709551615 (rowR q sk).2).2) (hkp : Keep (fun k => k = W.heap.size) wr w') => (R2.out.num hr hkp))
            have hq8 : q ≤ 16 := by omega
            clear R2
            generalize (numR 18446744073709551615 (rowR q sk).2).1 = x at *
            generalize hs9 : (numR 18446744073709551615 (rowR q sk).2).2 = s9 at *
            clear hs9
            go_wp2_with (first
              | (go_at_call 58; refine CN.out.mono ?_
                 rintro e w4 ⟨rfl, hr4, hk4⟩
                 have R4 := Lib.hid (NX.out w4 hr4 hk4)
                 clear hr4 hk4)
              | (at_builtin
                 refine wpList_append_at rfl (.tmp 30) (.tmp 33) 41 rfl wq.heap.size 29 q0 (.int .u64 0) 1 8 Try.underlying41 hq0 hy0 hy1 hy2 rfl (by decide) (.slice va q vc) q ((rowR q sk).1.map qV) rfl ?h1 _ _ _ [.int .u64 (x : Int)] rfl ?h2 ?h3 ?h4 ?h5 ?h6 ?h7 ?h8 ?_
                 case h1 =>
                   have h := (R4.out.below (box_b w4 (.cells #[.int .u64 (x : Int)] 29))).row
                   rw [VL.out] at h
                   exact h
                 case h2 => rfl
                 case h3 => intro e; cases e
                 case h4 => exact lit_cell _ _ _
                 case h5 => intro u hu; rw [List.mem_singleton.1 hu]; rfl
                 case h6 => unfold maxLen; omega
                 case h7 => omega
                 case h8 => have := R4.out.sz2; simp; omega
                 intro v5 w5 hown5 hgr5 hat5
                 have R5 := Lib.hid ((R4.out.below (box_b w4 (.cells #[.int .u64 (x : Int)] 29))).more (x := x) XL.out (by rw [VL.out]; exact hown5) hgr5)
                 clear hown5 hgr5 hat5))
            go_roundw
            case rel => exact ⟨q + 1, by omega, by go_num, by rw [VS.out.1, VS.out.2]; exact R5.out⟩
            case measure => simp only [intOf]; omega
          · obtain rfl : q = N := by omega
            have dq : decide ((q : Int) < (q : Int)) = false := decide_eq_false (by omega)
            have ML := Lib.hid (show mOf (L ++ [⟨va, vc, (rowR q sk).1⟩]) = (matR q (k + 1) (some bs)).1 ∧ (matR q (k + 1) (some bs)).2 = (rowR q sk).2 from by
              refine ⟨?_, by rw [HSK.out]; rfl⟩
              rw [matR, ← HM.out, ← HSK.out]
              simp [mOf])
            go_wp2_with (at_builtin
                         refine wpList_append_at rfl (.tmp 35) (.tmp 37) 55 rfl (W.heap.size + 1) 41 i0 (.slice none 0 0) 1 24 Try.underlying55 hi0 hz0 hz1 hz2 rfl (by decide) (.slice sa k sc) k (L.map rdV) rfl ?h1 _ _ _ [.slice va q vc] rfl ?h2 ?h3 ?h4 ?h5 ?h6 ?h7 ?h8 ?_
                         case h1 =>
                           have h := (R2.out.sq.below (box_b wr (.cells #[.slice va q vc] 41))).out
                           rw [HL.out] at h
                           exact h
                         case h2 => rfl
                         case h3 => intro e; cases e
                         case h4 => exact lit_cell _ _ _
                         case h5 => intro u hu; rw [List.mem_singleton.1 hu]; rfl
                         case h6 => unfold maxLen; omega
                         case h7 => omega
                         case h8 => have := R2.out.sz; have := R2.out.sz2; simp; omega
                         intro v5 w5 hown5 hgr5 hat5
                         have R5 := Lib.hid (RmS.push (a := va) (c := vc) (vs := (rowR q sk).1) (by rw [VL.out]; exact R2.out) (box_b wr (.cells #[.slice va q vc] 41)) (by rw [HL.out, VL.out]; exact hown5) hgr5 hat5)
                         clear hown5 hgr5 hat5)
            go_roundw
            case rel => exact ⟨k + 1, _, by omega, by go_num, by simp [HL.out], ML.out.1, by rw [ML.out.2]; exact R5.out⟩
            case measure => simp only [intOf]; omega
      · obtain rfl : k = N := by omega
        have dk : decide ((k : Int) < (k : Int)) = false := decide_eq_false (by omega)
        have CE := Lib.hid (rrend_any wr W.heap.size _ _ R.out.rd)
        have LM := Lib.hid (show (matR k k (some bs)).1.length = k from matR_len ..)
        have SQ := Lib.hid (show SqR (fun _ => False) W k (matR k k (some bs)).1 sa sc wr from own_sqR (R.out.sq.mono (Nat.le_succ _)) HL.out HM.out R.out.b)
        have BB := Lib.hid R.out.b
        clear R
        obtain ⟨b9, hb9⟩ : ∃ b, b = endR (matR k k (some bs)).2 := ⟨_, rfl⟩
        rw [← hb9] at CE
        have HE := Lib.hid hb9.symm
        clear hb9
        cases b9
        · go_wp2_with (go_at_call 59; refine CE.out.mono ?_; rintro e w' ⟨rfl, rfl⟩)
          go_ret2
          rw [← HO.out, HE.out]
          exact ⟨rfl, BB.out⟩
        · go_wp2_with (go_at_call 59; refine CE.out.mono ?_; rintro e w' ⟨rfl, rfl⟩)
          go_ret2
          rw [← HO.out, HE.out]
          exact ⟨sa, sc, by rw [LM.out]; rfl, by rw [LM.out]; exact SQ.out⟩
  · rw [readM_no hz] at ho
    subst ho
    by_cases h1 : z < 1
    · have d1 : decide (z < 1) = true := decide_eq_true h1
      clear hz h1
      go_enter Try.func28, Try.ntmps28
      go_wp2_with fail
      go_ret2
      exact ⟨rfl, Below.refl _ _⟩
    · have d1 : decide (z < 1) = false := decide_eq_false h1
      have d2 : decide (z > 16) = true := decide_eq_true (by omega)
      clear hz h1
      go_enter Try.func28, Try.ntmps28
      go_wp2_with fail
      go_ret2
      exact ⟨rfl, Below.refl _ _⟩

end Go.Proofs.Ytopnagjbdjicaaa

/-
  The document's own engine: how it lies; begun.
-/
namespace Go.Proofs.Ytopnagjbdjicaaa
open Go.RowKit

theorem zerosM_lt (n : Nat) : ∀ r ∈ zerosM n, ∀ x ∈ r, x < QM := fun r hr x hx => by
  rw [(List.mem_replicate.1 hr).2] at hx
  rw [(List.mem_replicate.1 hx).2]; decide
theorem newE_ok {n me : Nat} (h1 : 1 ≤ n) (h2 : n ≤ 16) (hm : me < n) : (newE n me).ok :=
  ⟨h1, h2, hm, goodM_of h1 h2 (by simp [newE, zerosM]) (fun r hr => by rw [(List.mem_replicate.1 hr).2, List.length_replicate]; rfl), zerosM_lt n, List.length_replicate .., zeros_lt n⟩

def deC (n me : Int) (s g : Value) : Nat → Value := fun o => if o = 0 then .int .i64 n else if o = 1 then .int .i64 me else if o = 2 then s else g
/-- The document's own engine in block q, all of it in blocks of F. -/
structure DeV (w : World) (F : Nat → Prop) (q : Nat) (e : En) (sa : Option Addr) (sc : Nat) (ga : Option Addr) (gc : Nat) : Prop where
  c : Cel 4 w q (deC e.n e.me (.slice sa e.n sc) (.slice ga e.n gc))
  s : SqAt (fun k => F k ∧ k ≠ q) w sa sc e.n e.S
  g : SlAt qV QM w ga gc e.G
  gF : ∀ ad, ga = some ad → e.G ≠ [] → F ad.block ∧ ad.block ≠ q
  q : F q
  low : ∀ k, F k → k < w.heap.size
  ok : e.ok
def DeAt (w : World) (F : Nat → Prop) (q : Nat) (e : En) : Prop := ∃ sa sc ga gc, DeV w F q e sa sc ga gc
theorem SqAt.keep {A G : Nat → Prop} {w w' : World} {a : Option Addr} {cap n : Nat} {m : List (List Nat)} (h : SqAt A w a cap n m) (hk : Keep G w w') (hA : ∀ k, A k → ¬ G k) : SqAt A w' a cap n m := by
  obtain ⟨L, e, l, s, x, y⟩ := h
  refine ⟨L, e, l, ⟨s.out.carry hk.size fun ad ea hne hlt => hk.block _ hlt (hA _ (x ad ea (fun h0 => hne (by rw [List.length_eq_zero_iff.1 (l.trans h0)]; rfl)))), fun r hr => (s.each r hr).carry hk.size fun ad ea hne hlt => hk.block _ hlt (hA _ (y r hr ad ea hne))⟩, x, y⟩
theorem DeV.keep {w w' : World} {F G : Nat → Prop} {q : Nat} {e : En} {sa ga : Option Addr} {sc gc : Nat} (h : DeV w F q e sa sc ga gc) (hk : Keep G w w') (hF : ∀ k, F k → ¬ G k) : DeV w' F q e sa sc ga gc :=
  ⟨h.c.keep hk (hF q h.q), h.s.keep hk (fun k hk => hF k hk.1), h.g.carry hk.size (fun ad e hne hlt => hk.block _ hlt (hF _ (h.gF ad e hne).1)), h.gF, h.q, fun k f => Nat.lt_of_lt_of_le (h.low k f) hk.size, h.ok⟩
theorem DeAt.keep {w w' : World} {F G : Nat → Prop} {q : Nat} {e : En} (h : DeAt w F q e) (hk : Keep G w w') (hF : ∀ k, F k → ¬ G k) : DeAt w' F q e := by
  obtain ⟨sa, sc, ga, gc, h⟩ := h
  exact ⟨sa, sc, ga, gc, h.keep hk hF⟩
theorem DeAt.below {w w' : World} {F : Nat → Prop} {q : Nat} {e : En} (h : DeAt w F q e) (hb : Below w.heap.size w w') : DeAt w' F q e := h.keep (Keep.ofBelow (F := fun _ => False) hb) (fun _ _ => id)

def BgR (W : World) (B q gb : Nat) (n me : Nat) (g : Value) (i : Value) (wr : World) : Prop :=
  ∃ (k : Nat) (L : List Rd) (a : Option Addr) (cap : Nat), k ≤ n ∧ i = .int .i64 (k : Nat) ∧ L.length = k ∧ (∀ r ∈ L, r.l = List.replicate n 0) ∧ OwnSq 41 B wr (.slice a k cap) L ∧ Cel 4 wr q (deC n me (.slice a k cap) g) ∧ Below W.heap.size W wr ∧ RowQ wr gb (List.replicate n 0)

theorem BgR.next {W wr w2 w3 : World} {B q gb n me k : Nat} {g : Value} {L : List Rd} {a a2 : Option Addr} {cap cap2 : Nat} (hk : k < n) (hl : L.length = k) (hL : ∀ r ∈ L, r.l = List.replicate n 0) (hO : OwnSq 41 B wr (.slice a k cap) L) (hc : Cel 4 wr q (deC n me (.slice a k cap) g)) (hb : Below W.heap.size W wr) (hG : RowQ wr gb (List.replicate n 0)) (hgb : gb < B) (hgq : gb ≠ q) (hq0 : W.heap.size ≤ q) (hq : q < B) (hB : B ≤ wr.heap.size) (hn : n ≤ 1000000)
    (h2 : Below (wr.alloc (.cells (madeCells #[.int .u64 0] n) 29)).heap.size (wr.alloc (.cells (madeCells #[.int .u64 0] n) 29)) w2)
    (hown : w3.ownsRow B 41 1 (.slice a2 (k + 1) cap2) (k + 1) (L.map rdV ++ [.slice (some ⟨wr.heap.size, 0, none⟩) n n])) (hgr : w2.grownBy w3 (Value.slice a k cap).ownBlock) (hat : ∀ j, (Value.slice a2 (k + 1) cap2).ownBlock = some j → (Value.slice a k cap).ownBlock = some j ∨ w2.heap.size ≤ j) :
    w3.cell? ⟨q, 2, none⟩ = some (.slice a k cap) ∧ w3.frozen? ⟨q, 2, none⟩ = false ∧ BgR W B q gb n me g (.int .i64 ((k + 1 : Nat) : Int)) (w3.setCell ⟨q, 2, none⟩ (.slice a2 (k + 1) cap2)) := by
  have hw := (RowQ.made wr n).own (Nat.le_refl _) (by rw [List.length_replicate]; unfold maxLen; omega)
  rw [List.length_replicate] at hw
  have b1 := below_alloc (Below.refl _ wr) (.cells (madeCells #[.int .u64 0] n) 29)
  have hP := hO.push (xs := List.replicate n 0) (a := some ⟨wr.heap.size, 0, none⟩) (c := n) b1 (by rw [List.length_replicate]; exact hw) hB (zeros_lt n) h2 (by rw [hl, List.length_replicate]; exact hown) hgr hat
  have lo : ∀ j, (Value.slice a k cap).ownBlock = some j → B ≤ j := fun j e => (hO.out.lt j e).1
  have kk : Keep (fun j => (Value.slice a k cap).ownBlock = some j) w2 w3 := (Keep.refl _ _).grown hgr (fun j h => Or.inl h)
  have k0 : Keep (fun j => (Value.slice a k cap).ownBlock = some j) wr w3 := (Keep.ofBelow (F := fun j => (Value.slice a k cap).ownBlock = some j) (b1.trans (h2.mono b1.size))).trans kk (fun i _ e => e)
  have c2 := hc.keep k0 (fun e => by have := lo _ e; omega)
  have sq : ∀ j, (Value.slice a2 (k + 1) cap2).ownBlock = some j → B ≤ j := fun j e => (hown.lt j e).1
  refine ⟨c2.c 2 (by decide), c2.fz 2, k + 1, L ++ [⟨some ⟨wr.heap.size, 0, none⟩, n, List.replicate n 0⟩], a2, cap2, by omega, rfl, by simp [hl], fun r hr => ?_, ?_, ?_, ?_, ?_⟩
  · rcases List.mem_append.1 hr with hr | hr
    · exact hL r hr
    · rw [List.mem_singleton.1 hr]
  · exact hP.put_off (hP.off (Or.inl hq)) 2 _
  · refine (c2.put 2 _).conv fun o ho => ?_
    unfold updc deC
    rcases (show o = 0 ∨ o = 1 ∨ o = 2 ∨ o = 3 by omega) with rfl | rfl | rfl | rfl <;> rfl
  · exact (hb.trans (k0.below hb.size (fun k e => by have := lo k e; omega))).setCell hq0 _
  · exact hG.of ((Below.heap_setCell _ _ _ _ hgq).trans (k0.block gb hG.lt (fun e => by have := lo _ e; omega)))

theorem deC_new (w : World) (n me : Nat) (s g : Value) (t : TypeId) : Cel 4 (w.alloc (.cells #[.int .i64 n, .int .i64 me, s, g] t)) w.heap.size (deC n me s g) :=
  (Cel.new w [.int .i64 n, .int .i64 me, s, g] t).conv (fun o ho => by
    rcases (show o = 0 ∨ o = 1 ∨ o = 2 ∨ o = 3 by simp at ho; omega) with rfl | rfl | rfl | rfl <;> rfl)

set_option maxRecDepth 20000 in
set_option maxHeartbeats 4000000 in
theorem begun_at (W : World) {n me : Nat} {z y : Int} (hz : (n : Int) = z) (hy : (me : Int) = y) (h1 : 1 ≤ n) (h2 : n ≤ 16) (hm : me < n) :
    Calls Try.prog 20 #[.int .i64 z, .int .i64 y] W fun e w' => ∃ q F, e = .returned (.pointer (some ⟨q, 0, none⟩)) ∧ DeAt w' F q (newE n me) ∧ Below W.heap.size W w' ∧ ∀ k, F k → W.heap.size ≤ k := by
  subst hz hy
  obtain ⟨i0, hi0, hz0, hz1, hz2⟩ := info_v Try.infoR
  have hmk : ∀ w : World, (Instr.makeSlice 41 (.int .i64 (n : Int)) (.int .i64 (n : Int))).run Try.prog w = .ok (.slice (some ⟨w.heap.size, 0, none⟩) n n) (w.alloc (.cells (madeCells #[.int .u64 0] n) 29)) :=
    fun w => run_make_row' (P := Try.prog) 41 29 (.int .u64 0) 8 Try.underlying41 Try.infoQ rfl .i64 .i64 n (by omega) (by omega) w
  obtain ⟨w0, hw0⟩ : ∃ w0, w0 = (W.alloc (.cells (madeCells #[.int .u64 0] n) 29)).alloc (.cells #[.int .i64 n, .int .i64 me, .slice none 0 0, .slice (some ⟨W.heap.size, 0, none⟩) n n] 57) := ⟨_, rfl⟩
  have I0 := Lib.hid (show BgR W (W.heap.size + 2) (W.heap.size + 1) W.heap.size n me (.slice (some ⟨W.heap.size, 0, none⟩) n n) (.int .i64 0) w0 from by
    have hc := deC_new (W.alloc (.cells (madeCells #[.int .u64 0] n) 29)) n me (.slice none 0 0) (.slice (some ⟨W.heap.size, 0, none⟩) n n) 57
    rw [show (W.alloc (.cells (madeCells #[.int .u64 0] n) 29)).heap.size = W.heap.size + 1 by simp, ← hw0] at hc
    exact ⟨0, [], none, 0, Nat.zero_le _, rfl, rfl, by simp, OwnSq.nil _, hc, by rw [hw0]; exact below_alloc (below_alloc (Below.refl _ _) _) _, by rw [hw0]; exact (RowQ.made W n).below (box_b _ _) (by simp)⟩)
  have HW0 := Lib.hid hw0.symm
  have SZ0 := Lib.hid (show w0.heap.size = W.heap.size + 2 from by rw [hw0]; simp)
  clear hw0
  go_enter Try.func20, Try.ntmps20
  go_wp2_with fail
  rw [HW0.out]
  clear HW0
  go_loopw [6] (fun i wr => BgR W (W.heap.size + 2) (W.heap.size + 1) W.heap.size n me (.slice (some ⟨W.heap.size, 0, none⟩) n n) i wr) (fun i _ => n - (intOf i).toNat)
  case atStart => exact I0.out
  case round =>
    obtain ⟨k, L, sa, sc, hk, rfl, hl, hL, hO, hc, hb, hG⟩ := hrel
    clear I0
    by_cases hlt : k < n
    · have hB : W.heap.size + 2 ≤ wr.heap.size := by have := hc.lt; omega
      have NX := Lib.hid (fun w2 w3 a2 cap2 h2 hown hgr hat => BgR.next (w2 := w2) (w3 := w3) (a2 := a2) (cap2 := cap2) hlt hl hL hO hc hb hG (by omega) (by omega) (by omega) (by omega) hB (by omega) h2 hown hgr hat)
      have c2 : wr.cell? ⟨W.heap.size + 1, 2, none⟩ = some (.slice sa k sc) := hc.c 2 (by decide)
      have c2d : wr.drew.cell? ⟨W.heap.size + 1, 2, none⟩ = some (.slice sa k sc) := c2
      have c2a : (wr.alloc (.cells (madeCells #[.int .u64 0] n) 29)).drew.cell? ⟨W.heap.size + 1, 2, none⟩ = some (.slice sa k sc) := ((hc.below (box_b _ _)).drew).c 2 (by decide)
      have c2b : ((wr.alloc (.cells (madeCells #[.int .u64 0] n) 29)).alloc (.cells #[.slice (some ⟨wr.heap.size, 0, none⟩) n n] 41)).drew.cell? ⟨W.heap.size + 1, 2, none⟩ = some (.slice sa k sc) := (((hc.below (box_b _ _)).below (box_b _ _)).drew).c 2 (by decide)
      have OD := Lib.hid (show ((wr.alloc (.cells (madeCells #[.int .u64 0] n) 29)).alloc (.cells #[.slice (some ⟨wr.heap.size, 0, none⟩) n n] 41)).drew.ownsRow (W.heap.size + 2) 41 1 (.slice sa k sc) k (L.map rdV) from by
        have h := (((hO.below (box_b _ (.cells (madeCells #[.int .u64 0] n) 29))).below (box_b _ (.cells #[.slice (some ⟨wr.heap.size, 0, none⟩) n n] 41))).below (drew_below _)).out
        rw [hl] at h
        exact h)
      have BD := Lib.hid (show Below (wr.alloc (.cells (madeCells #[.int .u64 0] n) 29)).heap.size (wr.alloc (.cells (madeCells #[.int .u64 0] n) 29)) ((wr.alloc (.cells (madeCells #[.int .u64 0] n) 29)).alloc (.cells #[.slice (some ⟨wr.heap.size, 0, none⟩) n n] 41)).drew from (box_b _ _).trans ((drew_below _).mono (by simp)))
      have LC := Lib.hid (show ∀ ad, (some ⟨wr.heap.size + 1, 0, none⟩ : Option Addr) = some ad → ∀ j u, [Value.slice (some ⟨wr.heap.size, 0, none⟩) n n][j]? = some u → ((wr.alloc (.cells (madeCells #[.int .u64 0] n) 29)).alloc (.cells #[.slice (some ⟨wr.heap.size, 0, none⟩) n n] 41)).drew.cell? (ad.add j) = some u from by
        have h := lit_cell (wr.alloc (.cells (madeCells #[.int .u64 0] n) 29)) (.slice (some ⟨wr.heap.size, 0, none⟩) n n) 41
        rw [size_one] at h
        exact h)
      have ONE := Lib.hid (show ∀ u ∈ ([.slice (some ⟨wr.heap.size, 0, none⟩) n n] : List Value), u.oneCell' = true from fun u hu => by rw [List.mem_singleton.1 hu]; rfl)
      have hk16 : k ≤ 16 := by omega
      have HBs := Lib.hid hB
      clear hO hc hb hl hL hB hG
      go_wp2_with fail
      go_region_law (refine step_append_at rfl (.tmp 22) (.tmp 25) 55 rfl (W.heap.size + 2) 41 i0 (.slice none 0 0) 1 24 Try.underlying55 hi0 hz0 hz1 hz2 rfl (by decide) (.slice sa k sc) k (L.map rdV) (by simp [Act.eval]) OD.out (some ⟨wr.heap.size + 1, 0, none⟩) 1 1 [.slice (some ⟨wr.heap.size, 0, none⟩) n n] (by simp [Act.eval]) rfl (fun e => by cases e) LC.out ONE.out (by unfold maxLen; omega) (by omega) (by have := HBs.out; simp; omega) ?_; intro a2 cap2 w2 hown2 hgr2 hat2; obtain ⟨c9, f9, r9⟩ := NX.out _ w2 a2 cap2 BD.out hown2 hgr2 hat2; have R := Lib.hid r9; clear r9 hown2 hgr2 hat2)
      all_goals
        try go_simp
        go_wp2_with fail
        go_roundw
        case rel => exact R.out
        case measure => simp only [intOf]; omega
    · obtain rfl : k = n := by omega
      have dk : decide ((k : Int) < (k : Int)) = false := decide_eq_false (by omega)
      have R := Lib.hid (show DeAt wr (fun j => W.heap.size ≤ j ∧ j < wr.heap.size) (W.heap.size + 1) (newE k me) ∧ Below W.heap.size W wr from by
        have hlt := hc.lt
        refine ⟨⟨sa, sc, some ⟨W.heap.size, 0, none⟩, k, hc, ?_, ?_, ?_, ⟨by omega, hlt⟩, fun j h => h.2, ?_⟩, hb⟩
        · obtain ⟨a2, c2, e2, hs, hlo⟩ := hO.sq
          rw [hl] at e2
          cases e2
          refine ⟨L, zerosM_is hl hL, hl, hs, fun ad e hn => ?_, fun r hr ad e hne => ?_⟩
          · have := hO.out.lt ad.block (by subst e; rfl)
            exact ⟨⟨by omega, by omega⟩, by omega⟩
          · have := (hO.row r hr).lt ad.block (by unfold rdV; rw [e]; rfl)
            exact ⟨⟨by omega, by omega⟩, by omega⟩
        · have h := hG.sl (zeros_lt k) (by rw [List.length_replicate]; unfold maxLen; omega)
          rw [List.length_replicate] at h
          exact h
        · intro ad e _
          cases e
          exact ⟨⟨Nat.le_refl _, by show W.heap.size < _; omega⟩, by show W.heap.size ≠ _; omega⟩
        · exact newE_ok h1 h2 hm)
      clear hO hc hb hl hL hG
      go_wp2_with fail
      go_ret
      exact ⟨_, _, rfl, R.out.1, R.out.2, fun j h => h.1⟩

end Go.Proofs.Ytopnagjbdjicaaa

/-
  The document's own engine: may it be taken?
-/
namespace Go.Proofs.Ytopnagjbdjicaaa
open Go.RowKit

theorem canE_none {e : En} {f : Int} {b : List Nat} (h : readM (e.n : Int) b = none) : canE e f b = false := by
  unfold canE; rw [h]; rfl
theorem canE_some {e : En} {f : Int} {b : List Nat} {m : List (List Nat)} (h : readM (e.n : Int) b = some m) : canE e f b = (decide (0 ≤ f ∧ f < e.n ∧ f ≠ e.me) && needE e m) := by
  unfold canE; rw [h]; rfl
theorem needE_is {e : En} {m : List (List Nat)} : needE e m = decide (∀ k, k < e.n → atN (m.getD k []) e.me ≤ atN e.G k) := by
  unfold needE
  rw [Bool.eq_iff_iff, List.all_eq_true, decide_eq_true_eq]
  exact ⟨fun h k hk => of_decide_eq_true (h k (List.mem_range.2 hk)), fun h k hk => decide_eq_true (h k (List.mem_range.1 hk))⟩

set_option maxRecDepth 20000 in
set_option maxHeartbeats 8000000 in
theorem dcan_at {w : World} {F : Nat → Prop} {q : Nat} {e : En} {f : Int} {ao : Option Addr} {cap len : Nat} {bs : List Nat} (h : DeAt w F q e) (hs : SlAt bV 256 w ao cap bs) (hlen : bs.length = len) {r : Bool} (hr : canE e f bs = r) :
    Calls Try.prog 23 #[.pointer (some ⟨q, 0, none⟩), .int .i64 f, .slice ao len cap] w fun x w' => x = .returned (.bool r) ∧ Below w.heap.size w w' := by
  obtain ⟨sa, sc, ga, gc, hV⟩ := h
  obtain ⟨o, ho⟩ : ∃ o, readM (e.n : Int) bs = o := ⟨_, rfl⟩
  have CR := Lib.hid (rread_at hs hlen ho)
  have c0 : w.cell? ⟨q, 0, none⟩ = some (.int .i64 e.n) := hV.c.c 0 (by decide)
  have V := Lib.hid hV
  have HO := Lib.hid ho
  have HR := Lib.hid hr
  have ok := Lib.hid hV.ok
  clear hV hs hlen ho hr
  go_enter Try.func23, Try.ntmps23
  go_wp2_with fail
  refine CR.out.mono ?_
  clear CR c0
  cases o with
  | none =>
    rintro x w1 ⟨rfl, hb⟩
    have B := Lib.hid hb
    have R := Lib.hid (show r = false from by rw [← HR.out]; exact canE_none HO.out)
    clear hb
    go_wp2_with fail
    go_ret
    exact ⟨by rw [R.out]; rfl, B.out⟩
  | some m =>
    rintro x w1 ⟨ma, mc, rfl, hS, hb⟩
    have B := Lib.hid hb
    have M := Lib.hid hS
    replace V := Lib.hid (V.out.keep (Keep.ofBelow (F := fun _ => False) hb) (fun _ _ => id))
    have R := Lib.hid (show r = (decide (0 ≤ f ∧ f < e.n ∧ f ≠ e.me) && needE e m) from by rw [← HR.out]; exact canE_some HO.out)
    have GM := Lib.hid (readM_good HO.out)
    have c0 : w1.cell? ⟨q, 0, none⟩ = some (.int .i64 e.n) := V.out.c.c 0 (by decide)
    have c1 : w1.cell? ⟨q, 1, none⟩ = some (.int .i64 e.me) := V.out.c.c 1 (by decide)
    clear hb hS HR HO
    by_cases h1 : f < 0
    · have d1 : decide (f < 0) = true := decide_eq_true h1
      have R2 := Lib.hid (show r = false from by rw [R.out, decide_eq_false (show ¬ (0 ≤ f ∧ f < e.n ∧ f ≠ e.me) by omega)]; rfl)
      clear h1
      go_wp2_with fail
      go_ret
      exact ⟨by rw [R2.out]; rfl, B.out⟩
    · have d1 : decide (f < 0) = false := decide_eq_false h1
      by_cases h2 : f ≥ (e.n : Int)
      · have d2 : decide (f ≥ (e.n : Int)) = true := decide_eq_true h2
        have R2 := Lib.hid (show r = false from by rw [R.out, decide_eq_false (show ¬ (0 ≤ f ∧ f < e.n ∧ f ≠ e.me) by omega)]; rfl)
        clear h1 h2
        go_wp2_with fail
        go_ret
        exact ⟨by rw [R2.out]; rfl, B.out⟩
      · have d2 : decide (f ≥ (e.n : Int)) = false := decide_eq_false h2
        by_cases h3 : f = (e.me : Int)
        · have d3 : (f == (e.me : Int)) = true := by simpa using h3
          have R2 := Lib.hid (show r = false from by rw [R.out, decide_eq_false (show ¬ (0 ≤ f ∧ f < e.n ∧ f ≠ e.me) by omega)]; rfl)
          clear h1 h2 h3
          go_wp2_with fail
          go_ret
          exact ⟨by rw [R2.out]; rfl, B.out⟩
        · have d3 : (f == (e.me : Int)) = false := by simpa using h3
          have R2 := Lib.hid (show r = decide (∀ k, k < e.n → atN (m.getD k []) e.me ≤ atN e.G k) from by rw [R.out, decide_eq_true (show 0 ≤ f ∧ f < e.n ∧ f ≠ e.me by omega), Bool.true_and, needE_is])
          have c3 : w1.cell? ⟨q, 3, none⟩ = some (.slice ga e.n gc) := V.out.c.c 3 (by decide)
          have lm := M.out.len
          have hn2 := ok.out.n2
          have hm2 := ok.out.me
          have LG := Lib.hid ok.out.G
          have GG := Lib.hid V.out.g
          have ML := Lib.hid (show ∀ k, k < e.n → (m.getD k []).length = e.n from fun k hk => by
            obtain ⟨n, e9, -, -, h3, h4⟩ := goodM_is GM.out.1
            obtain rfl : e.n = n := by omega
            rw [List.getD, List.getElem?_eq_getElem (by omega)]
            exact h4 _ (List.getElem_mem _))
          have lm2 : m.length = e.n := by
            obtain ⟨n9, e9, -, -, h3, h4⟩ := goodM_is GM.out.1
            omega
          rw [lm2] at M ⊢
          clear h1 h2 h3 R V ok GM lm lm2
          generalize e.n = n at *
          generalize e.me = me at *
          generalize e.G = G at *
          go_wp2_with fail
          go_loopw [9] (fun v wr => ∃ (k d : Nat), k ≤ n ∧ v = .int .i64 (k : Nat) ∧ wr = w1.drewN d ∧ Hid (∀ t, t < k → atN (m.getD t []) me ≤ atN G t)) (fun v _ => n - (intOf v).toNat)
          case atStart => exact ⟨0, 0, Nat.zero_le _, rfl, rfl, Lib.hid (fun t ht => by omega)⟩
          case round =>
            obtain ⟨k, d, hk, rfl, rfl, hT⟩ := hrel
            have hQ := Lib.hid (fun x => (show ∃ q', (w1.drewN d).drewN x = w1.drewN q' from ⟨d + x, by rw [World.drewN_drewN]⟩))
            have e0 : (w1.drewN d).cell? ⟨q, 0, none⟩ = some (.int .i64 n) := c0
            have e1 : (w1.drewN d).cell? ⟨q, 1, none⟩ = some (.int .i64 me) := c1
            have e3 : (w1.drewN d).cell? ⟨q, 3, none⟩ = some (.slice ga n gc) := c3
            have BX := Lib.hid (fun x => (show Below w.heap.size w (w1.drewN x) from drewN_b B.out x))
            by_cases hlt : k < n
            · obtain ⟨b, off, rfl, -, hg⟩ := GG.out.at (i := k) (by rw [LG.out]; exact hlt)
              obtain ⟨b2, off2, ra, rc, rfl, hc, hsr⟩ := M.out.row hlt
              obtain ⟨b3, off3, rfl, -, hx⟩ := hsr.at (i := me) (by rw [ML.out k hlt]; exact hm2)
              rw [ML.out k hlt] at hc
              have g0 : (w1.drewN d).cell? ⟨b, off + k, none⟩ = some (.int .u64 ((atN G k : Nat) : Int)) := hg
              have g1 : (w1.drewN d).cell? ⟨b2, off2 + k, none⟩ = some (.slice (some ⟨b3, off3, none⟩) n rc) := hc
              have g2 : (w1.drewN d).cell? ⟨b3, off3 + me, none⟩ = some (.int .u64 ((atN (m.getD k []) me : Nat) : Int)) := hx
              have i0 : (0 : Int) ≤ (k : Int) := by omega
              have i1 : (k : Int) < (n : Int) := by omega
              have i2 : (0 : Int) ≤ (me : Int) := by omega
              have i3 : (me : Int) < (n : Int) := by omega
              have H1 := Lib.hid (fun (h : atN (m.getD k []) me ≤ atN G k) => show ∀ t, t < k + 1 → atN (m.getD t []) me ≤ atN G t from fun t ht => by
                by_cases e : t = k
                · subst e; exact h
                · exact hT.out t (by omega))
              have H2 := Lib.hid (fun (h : atN G k < atN (m.getD k []) me) => show r = false from by
                rw [R2.out]
                exact decide_eq_false fun h' => by have := h' k hlt; omega)
              clear hg hc hx hsr c0 c1 c3
              generalize atN (m.getD k []) me = x at *
              generalize atN G k = y at *
              generalize w1.drewN d = ww at *
              by_cases hxy : y < x
              · have d9 : decide ((y : Int) < (x : Int)) = true := decide_eq_true (by omega)
                have d8 : decide (y < x) = true := decide_eq_true hxy
                have R := Lib.hid (H2.out hxy)
                clear hxy H1 H2
                go_wp2_with fail
                go_quiet (fail)
                go_wp2_with fail
                go_ret
                exact ⟨by rw [R.out]; rfl, (hQ.out _).elim fun q' e => by rw [e]; exact BX.out q'⟩
              · have d9 : decide ((y : Int) < (x : Int)) = false := decide_eq_false (by omega)
                have d8 : decide (y < x) = false := decide_eq_false hxy
                have R := Lib.hid (H1.out (by omega))
                clear hxy H1 H2
                go_wp2_with fail
                go_quiet (fail)
                go_wp2_with fail
                go_roundw
                case rel => exact (hQ.out _).elim fun q' e => ⟨k + 1, q', by omega, by go_num, e, R⟩
                case measure => simp only [intOf]; omega
            · have R := Lib.hid (show r = true from by rw [R2.out]; exact decide_eq_true fun t ht => hT.out t (by omega))
              have dk : decide ((k : Int) < (n : Int)) = false := decide_eq_false (by omega)
              go_wp2_with fail
              go_ret
              exact ⟨by rw [R.out]; rfl, BX.out d⟩

end Go.Proofs.Ytopnagjbdjicaaa

/-
  An engine's state goes on; the document's own: another square, another row is stored.
-/
namespace Go.Proofs.Ytopnagjbdjicaaa
open Go.RowKit

theorem good_light {z : Int} {m : List (List Nat)} (h : goodM z m = true) : heavyM m = false := by
  obtain ⟨n, -, h1, h2, h3, h4⟩ := goodM_is h
  exact heavyM_of (by omega) (fun r hr => by rw [h4 r hr]; omega)
theorem upM_good {z : Int} {m : List (List Nat)} {i : Int} {t : Nat} (h : goodM z m = true) (hq : ∀ r ∈ m, ∀ x ∈ r, x < QM) : goodM z (upM z m i t) = true ∧ ∀ r ∈ upM z m i t, ∀ x ∈ r, x < QM := by
  by_cases hi : goodM z m = true ∧ 0 ≤ i ∧ i < z
  · obtain ⟨n, rfl, h1, h2, h3, h4⟩ := goodM_is h
    obtain ⟨k, rfl⟩ : ∃ k : Nat, i = k := ⟨i.toNat, by omega⟩
    have hk : k < m.length := by omega
    rw [upM_yes h (by omega)]
    have e : m.getD k [] = m[k] := by rw [List.getD, List.getElem?_eq_getElem hk]; rfl
    rw [e]
    refine ⟨goodM_of h1 h2 (by simpa using h3) fun r hr => ?_, fun r hr => ?_⟩
    · rcases List.mem_or_eq_of_mem_set hr with hr | rfl
      · exact h4 r hr
      · rw [incL_length]; exact h4 _ (List.getElem_mem _)
    · rcases List.mem_or_eq_of_mem_set hr with hr | rfl
      · exact hq r hr
      · exact incL_lt (hq _ (List.getElem_mem _))
  · rw [upM_no hi]
    exact ⟨h, hq⟩
theorem joinM_good {z : Int} {a b : List (List Nat)} (ga : goodM z a = true) (gb : goodM z b = true) (ha : ∀ r ∈ a, ∀ x ∈ r, x < QM) (hb : ∀ r ∈ b, ∀ x ∈ r, x < QM) : goodM z (joinM a b) = true ∧ ∀ r ∈ joinM a b, ∀ x ∈ r, x < QM := by
  obtain ⟨n, rfl, h1, h2, h3, h4⟩ := goodM_is ga
  obtain ⟨n2, e2, -, -, h5, h6⟩ := goodM_is gb
  obtain rfl : n = n2 := by omega
  have key : ∀ r ∈ joinM a b, r.length = n ∧ ∀ x ∈ r, x < QM := fun r hr => by
    obtain ⟨i, hi, rfl⟩ := List.getElem_of_mem hr
    rw [joinM_len] at hi
    rw [joinM_at hi (by omega), joinL_length, h4 _ (List.getElem_mem _), h6 _ (List.getElem_mem _), Nat.max_self]
    exact ⟨rfl, joinL_lt (by decide) (ha _ (List.getElem_mem _)) (hb _ (List.getElem_mem _))⟩
  exact ⟨goodM_of h1 h2 (by rw [joinM_len, h3]) fun r hr => (key r hr).1, fun r hr => (key r hr).2⟩
theorem toE_lt {n me t : Nat} (h : t < 18446744073709551616) : toE n me t < 18446744073709551616 :=
  Nat.lt_of_le_of_lt (Nat.le_trans Nat.and_le_left Nat.and_le_left) h
theorem sendE_ok {e : En} (h : e.ok) (t : Nat) : (sendE e t).ok := by
  have := upM_good (i := (e.me : Int)) (t := toE e.n e.me t) h.S h.lt
  exact ⟨h.n1, h.n2, h.me, this.1, this.2, h.G, h.gt⟩
theorem canE_is {e : En} {f : Int} {b : List Nat} (h : canE e f b = true) : ∃ m, readM (e.n : Int) b = some m ∧ 0 ≤ f ∧ f < e.n ∧ f ≠ e.me ∧ needE e m = true := by
  unfold canE at h
  cases hm : readM (e.n : Int) b with
  | none => rw [hm] at h; cases h
  | some m =>
    rw [hm] at h
    simp only [Option.any_some, Bool.and_eq_true, decide_eq_true_eq] at h
    exact ⟨m, rfl, h.1.1, h.1.2.1, h.1.2.2, h.2⟩
theorem takeE_no {e : En} {f : Int} {t : Nat} {b : List Nat} (h : canE e f b = false) : takeE e f t b = e := by
  unfold takeE; rw [h]; rfl
theorem takeE_yes {e : En} {f : Int} {t : Nat} {b : List Nat} {m : List (List Nat)} (h : canE e f b = true) (hm : readM (e.n : Int) b = some m) : takeE e f t b = { e with G := upR e.G f, S := joinM e.S (upM (e.n : Int) m f t) } := by
  unfold takeE; rw [h, hm]; rfl
theorem takeE_ok {e : En} (h : e.ok) (f : Int) (t : Nat) (b : List Nat) : (takeE e f t b).ok := by
  cases hc : canE e f b
  · rw [takeE_no hc]; exact h
  · obtain ⟨m, hm, h1, h2, h3, -⟩ := canE_is hc
    rw [takeE_yes hc hm]
    obtain ⟨g1, g2⟩ := readM_good hm
    obtain ⟨g3, g4⟩ := upM_good (i := f) (t := t) g1 g2
    obtain ⟨g5, g6⟩ := joinM_good h.S g3 h.lt g4
    obtain ⟨j, rfl⟩ : ∃ j : Nat, f = j := ⟨f.toNat, by omega⟩
    exact ⟨h.n1, h.n2, h.me, g5, g6, (upR_same (by rw [h.G]; omega)).trans h.G, upR_lt h.gt⟩

theorem DeV.mono {w : World} {F F' : Nat → Prop} {q : Nat} {e : En} {sa ga : Option Addr} {sc gc : Nat} (h : DeV w F q e sa sc ga gc) (hF : ∀ k, F k → F' k) (hl : ∀ k, F' k → k < w.heap.size) : DeV w F' q e sa sc ga gc :=
  ⟨h.c, h.s.mono (fun k _ hk => ⟨hF k hk.1, hk.2⟩), h.g, fun ad e hne => ⟨hF _ (h.gF ad e hne).1, (h.gF ad e hne).2⟩, hF q h.q, hl, h.ok⟩
/-- Another square is stored. -/
theorem DeV.setS {w w3 : World} {F : Nat → Prop} {q : Nat} {e : En} {sa ga a' : Option Addr} {sc gc c' : Nat} {S' : List (List Nat)} (h : DeV w F q e sa sc ga gc) (hS : SqR (fun _ => False) w e.n S' a' c' w3) (ok : ({ e with S := S' } : En).ok) :
    w3.cell? ⟨q, 2, none⟩ = some (.slice sa e.n sc) ∧ w3.frozen? ⟨q, 2, none⟩ = false ∧ DeV (w3.setCell ⟨q, 2, none⟩ (.slice a' e.n c')) (fun k => F k ∨ (w.heap.size ≤ k ∧ k < w3.heap.size)) q { e with S := S' } a' c' ga gc ∧ Keep F w (w3.setCell ⟨q, 2, none⟩ (.slice a' e.n c')) := by
  obtain ⟨hs, hb⟩ := hS
  have h3 := h.keep (Keep.ofBelow (F := fun _ => False) hb) (fun _ _ => id)
  have hq := h.low q h.q
  have sz := hb.size
  refine ⟨h3.c.c 2 (by decide), h3.c.fz 2, ⟨?_, ?_, ?_, ?_, Or.inl h.q, ?_, ok⟩, ?_⟩
  · refine (h3.c.put 2 _).conv fun o ho => ?_
    unfold updc deC
    rcases (show o = 0 ∨ o = 1 ∨ o = 2 ∨ o = 3 by omega) with rfl | rfl | rfl | rfl <;> rfl
  · refine (hs.mono (A' := fun k => (F k ∨ (w.heap.size ≤ k ∧ k < w3.heap.size)) ∧ k ≠ q) (fun k hk ha => ?_)).put (fun h => h.2 rfl) 2 _
    rcases ha with ha | ha
    · exact ha.elim
    · exact ⟨Or.inr ⟨ha, hk⟩, by omega⟩
  · exact h3.g.carry (by simp [World.setCell]) (fun ad e hne _ => Below.heap_setCell _ _ _ _ (h3.gF ad e hne).2)
  · exact fun ad e hne => ⟨Or.inl (h3.gF ad e hne).1, (h3.gF ad e hne).2⟩
  · intro k hk
    have : (w3.setCell ⟨q, 2, none⟩ (.slice a' e.n c')).heap.size = w3.heap.size := by simp [World.setCell]
    rcases hk with hk | hk
    · have := h3.low k hk; omega
    · omega
  · exact (Keep.ofBelow (F := F) hb).setCell (p := ⟨q, 2, none⟩) h.q _
/-- Another row is stored. -/
theorem DeV.setG {w w3 : World} {F : Nat → Prop} {q : Nat} {e : En} {sa ga a' : Option Addr} {sc gc c' : Nat} {G' : List Nat} (h : DeV w F q e sa sc ga gc) (hs : SlAt qV QM w3 a' c' G') (hb : Below w.heap.size w w3) (hf : ∀ ad, a' = some ad → w.heap.size ≤ ad.block) (ok : ({ e with G := G' } : En).ok) :
    w3.cell? ⟨q, 3, none⟩ = some (.slice ga e.n gc) ∧ w3.frozen? ⟨q, 3, none⟩ = false ∧ DeV (w3.setCell ⟨q, 3, none⟩ (.slice a' e.n c')) (fun k => F k ∨ (w.heap.size ≤ k ∧ k < w3.heap.size)) q { e with G := G' } sa sc a' c' ∧ Keep F w (w3.setCell ⟨q, 3, none⟩ (.slice a' e.n c')) := by
  have h3 := h.keep (Keep.ofBelow (F := fun _ => False) hb) (fun _ _ => id)
  have hq := h.low q h.q
  have sz := hb.size
  refine ⟨h3.c.c 3 (by decide), h3.c.fz 3, ⟨?_, ?_, ?_, ?_, Or.inl h.q, ?_, ok⟩, ?_⟩
  · refine (h3.c.put 3 _).conv fun o ho => ?_
    unfold updc deC
    rcases (show o = 0 ∨ o = 1 ∨ o = 2 ∨ o = 3 by omega) with rfl | rfl | rfl | rfl <;> rfl
  · exact (h3.s.mono (A' := fun k => (F k ∨ (w.heap.size ≤ k ∧ k < w3.heap.size)) ∧ k ≠ q) (fun k _ ha => ⟨Or.inl ha.1, ha.2⟩)).put (fun h => h.2 rfl) 3 _
  · exact hs.carry (by simp [World.setCell]) (fun ad e _ _ => Below.heap_setCell _ _ _ _ (by have := hf ad e; show ad.block ≠ q; omega))
  · intro ad e hne
    obtain ⟨b, off, e2, hl, -⟩ := hs.at (i := 0) (List.length_pos_iff.2 hne)
    rw [e] at e2
    cases e2
    have := hf _ e
    simp only at this
    exact ⟨Or.inr ⟨this, hl⟩, by show b ≠ q; omega⟩
  · intro k hk
    have : (w3.setCell ⟨q, 3, none⟩ (.slice a' e.n c')).heap.size = w3.heap.size := by simp [World.setCell]
    rcases hk with hk | hk
    · have := h3.low k hk; omega
    · omega
  · exact (Keep.ofBelow (F := F) hb).setCell (p := ⟨q, 3, none⟩) h.q _

end Go.Proofs.Ytopnagjbdjicaaa

/-
  Messages of one to one: how many are known to be sent (pure).
-/
namespace Go.Proofs.Ytopnagjbdjicaaa
open Go.RowKit

def sq1 (n i j v : Nat) : List (List Nat) := (zerosM n).set i ((List.replicate n 0).set j v)
theorem zerosM_len (n : Nat) : (zerosM n).length = n := by simp [zerosM]
theorem sq1_len (n i j v : Nat) : (sq1 n i j v).length = n := by simp [sq1, zerosM]
theorem sq1_row {n i j v k : Nat} (hi : i < n) (hk : k < n) : (sq1 n i j v).getD k [] = if k = i then (List.replicate n 0).set j v else List.replicate n 0 := by
  unfold sq1
  rw [List.getD, List.getElem?_set]
  by_cases h : i = k
  · subst h
    rw [if_pos rfl, if_pos rfl, if_pos (by rw [zerosM_len]; exact hi)]
    rfl
  · rw [if_neg h, if_neg (fun e => h e.symm), List.getElem?_eq_getElem (by rw [zerosM_len]; exact hk)]
    simp [zerosM]
theorem row1_at {n j v k : Nat} (hj : j < n) : atN ((List.replicate n 0).set j v) k = if k = j then v else 0 := by
  rw [set_atN (by simpa using hj), zeros_at]
theorem sq1_at {n i j v k : Nat} (hi : i < n) (hj : j < n) (hk : k < n) : atN ((sq1 n i j v).getD k []) j = if k = i then v else 0 := by
  rw [sq1_row hi hk]
  by_cases h : k = i
  · rw [if_pos h, if_pos h, row1_at hj, if_pos rfl]
  · rw [if_neg h, if_neg h, zeros_at]
theorem sq1_zero {n i j : Nat} : sq1 n i j 0 = zerosM n := by
  have h : (List.replicate n 0).set j 0 = List.replicate n 0 := row_ext (by simp) fun k _ => by
    by_cases hj : j < n
    · rw [row1_at hj, zeros_at]; split <;> rfl
    · rw [List.set_eq_of_length_le (by simp; omega)]
  unfold sq1
  rw [h]
  refine List.ext_getElem (by simp) fun k h1 h2 => ?_
  rw [List.getElem_set]
  split
  · simp [zerosM]
  · rfl
theorem sq1_good {n i j v : Nat} (h1 : 1 ≤ n) (h2 : n ≤ 16) (hv : v < QM) : goodM (n : Int) (sq1 n i j v) = true ∧ ∀ r ∈ sq1 n i j v, ∀ x ∈ r, x < QM := by
  have key : ∀ r ∈ sq1 n i j v, r.length = n ∧ ∀ x ∈ r, x < QM := fun r hr => by
    rcases List.mem_or_eq_of_mem_set hr with hr | rfl
    · rw [(List.mem_replicate.1 hr).2]
      exact ⟨by simp, zeros_lt n⟩
    · refine ⟨by simp, fun x hx => ?_⟩
      rcases List.mem_or_eq_of_mem_set hx with hx | rfl
      · exact zeros_lt n x hx
      · exact hv
  exact ⟨goodM_of h1 h2 (sq1_len ..) fun r hr => (key r hr).1, fun r hr => (key r hr).2⟩
theorem pow_has {j k : Nat} (_ : j < 64) (hk : k < 64) : hasN (2 ^ j) (k : Int) = decide (k = j) := by
  rw [hasN_nat hk, Nat.testBit_two_pow]
  exact decide_eq_decide.2 ⟨fun h => h.symm, fun h => h.symm⟩
theorem sq1_up {n i j v : Nat} (h1 : 1 ≤ n) (h2 : n ≤ 16) (hi : i < n) (hj : j < n) (hv : v + 1 < QM) : upM (n : Int) (sq1 n i j v) (i : Int) (2 ^ j) = sq1 n i j (v + 1) := by
  have hv' : v + 1 < 18446744073709551616 := hv
  rw [upM_yes (sq1_good h1 h2 (show v < QM by show v < 18446744073709551616; omega)).1 hi, sq1_row hi hi, if_pos rfl]
  have e : incL ((List.replicate n 0).set j v) (2 ^ j) n = (List.replicate n 0).set j (v + 1) := row_ext (by rw [incL_length]; simp) fun k hk => by
    rw [incL_length] at hk
    simp only [List.length_set, List.length_replicate] at hk
    rw [incL_at, if_pos (by simpa using hk), row1_at hj, row1_at hj, pow_has (by omega) (by omega)]
    by_cases h : k = j
    · rw [if_pos h, if_pos h, if_pos ⟨hk, decide_eq_true h, by omega⟩]
    · rw [if_neg h, if_neg h, if_neg (fun h' => h (of_decide_eq_true h'.2.1))]
  rw [e]
  unfold sq1
  rw [List.set_set]
theorem toE_one {n me j : Nat} (hn : n ≤ 64) (hj : j < n) (hm : me < 64) (h : j ≠ me) : toE n me (2 ^ j) = 2 ^ j := by
  refine Nat.eq_of_testBit_eq fun i => ?_
  unfold toE
  have e : (18446744073709551615 - 2 ^ me).testBit i = (decide (i < 64) && !decide (me = i)) := by
    have := Nat.testBit_two_pow_sub_succ (x := 2 ^ me) (n := 64) (pow_word hm) i
    rw [show (2 : Nat) ^ 64 - (2 ^ me + 1) = 18446744073709551615 - 2 ^ me by omega, Nat.testBit_two_pow] at this
    exact this
  rw [Nat.testBit_and, Nat.testBit_and, all_test, Nat.testBit_two_pow, e]
  by_cases hi : j = i
  · subst hi
    simp
    omega
  · simp [hi]
theorem list_one {j : Nat} (hj : j < 64) : listN (2 ^ j) = [j] := by
  have key : ∀ k, toN (2 ^ j) k = if j < k then [j] else [] := fun k => by
    induction k with
    | zero => rfl
    | succ k ih =>
      rw [toN_succ, ih, Nat.testBit_two_pow]
      by_cases h : j = k
      · subst h
        rw [if_pos (by simp), if_neg (by omega), if_pos (by omega)]; rfl
      · rw [if_neg (by simp [h])]
        by_cases h2 : j < k
        · rw [if_pos h2, if_pos (by omega)]
        · rw [if_neg h2, if_neg (by omega)]
  unfold listN
  rw [key, if_pos hj]
/-- The sender's engine behind k sends, the hearer's behind k takes (whatever it knows of others). -/
def sndE (n f t k : Nat) : En := ⟨n, f, sq1 n f t k, List.replicate n 0⟩
def hrE (n f t k : Nat) (S : List (List Nat)) : En := ⟨n, t, S, (List.replicate n 0).set f k⟩
theorem snd_new {n f t : Nat} : newE n f = sndE n f t 0 := by unfold newE sndE; rw [sq1_zero]
theorem hr_new {n f t : Nat} : newE n t = hrE n f t 0 (zerosM n) := by
  unfold newE hrE
  congr 1
  refine row_ext (by simp) fun k _ => ?_
  by_cases hf : f < n
  · rw [row1_at hf, zeros_at]; split <;> rfl
  · rw [List.set_eq_of_length_le (by simp; omega)]
theorem snd_next {n f t k : Nat} (h1 : 1 ≤ n) (h2 : n ≤ 16) (hf : f < n) (ht : t < n) (hft : t ≠ f) (hk : k ≤ 1000) : sendE (sndE n f t k) (2 ^ t) = sndE n f t (k + 1) := by
  unfold sendE sndE
  simp only
  rw [toE_one (by omega) ht (by omega) hft, sq1_up h1 h2 hf ht (show k + 1 < 18446744073709551616 by omega)]
theorem snd_read {n f t k : Nat} (h1 : 1 ≤ n) (h2 : n ≤ 16) (hk : k ≤ 1000) : readM (n : Int) (stampL (sq1 n f t k)) = some (sq1 n f t k) := by
  obtain ⟨g, q⟩ := sq1_good (i := f) (j := t) (v := k) h1 h2 (show k < 18446744073709551616 by omega)
  exact read_back g q
theorem hr_can {n f t k c : Nat} {S : List (List Nat)} (h1 : 1 ≤ n) (h2 : n ≤ 16) (hf : f < n) (ht : t < n) (hft : t ≠ f) (hc : c ≤ 1000) : canE (hrE n f t k S) (f : Int) (stampL (sq1 n f t c)) = decide (c ≤ k) := by
  rw [canE_some (m := sq1 n f t c) (snd_read h1 h2 hc), decide_eq_true (show 0 ≤ (f : Int) ∧ (f : Int) < ((hrE n f t k S).n : Int) ∧ (f : Int) ≠ ((hrE n f t k S).me : Int) from ⟨by omega, (show (f : Int) < (n : Int) by omega), (show (f : Int) ≠ (t : Int) by omega)⟩), Bool.true_and, needE_is]
  refine decide_eq_decide.2 ⟨fun h => ?_, fun h i hi => ?_⟩
  · have := h f hf
    change atN ((sq1 n f t c).getD f []) t ≤ atN ((List.replicate n 0).set f k) f at this
    rwa [sq1_at hf ht hf, if_pos rfl, row1_at hf, if_pos rfl] at this
  · change atN ((sq1 n f t c).getD i []) t ≤ atN ((List.replicate n 0).set f k) i
    rw [sq1_at hf ht hi, row1_at hf]
    split
    · exact h
    · exact Nat.le_refl _
theorem hr_next {n f t k : Nat} {S : List (List Nat)} (h1 : 1 ≤ n) (h2 : n ≤ 16) (hf : f < n) (ht : t < n) (hft : t ≠ f) (hk : k ≤ 1000) : ∃ S', takeE (hrE n f t k S) (f : Int) (2 ^ t) (stampL (sq1 n f t k)) = hrE n f t (k + 1) S' := by
  rw [takeE_yes (by rw [hr_can h1 h2 hf ht hft hk]; exact decide_eq_true (Nat.le_refl _)) (by rw [show ((hrE n f t k S).n : Int) = (n : Int) from rfl]; exact snd_read h1 h2 hk)]
  refine ⟨joinM S (upM (n : Int) (sq1 n f t k) (f : Int) (2 ^ t)), ?_⟩
  unfold hrE
  simp only
  congr 1
  have e1 : atN ((List.replicate n 0).set f k) f = k := by rw [row1_at hf, if_pos rfl]
  rw [upR_yes (mayUp_yes (by omega) (by rw [e1]; omega))]
  refine row_ext (by rw [upL_length]; simp; omega) fun i _ => ?_
  rw [upL_at, row1_at hf, row1_at hf]
  split <;> simp

end Go.Proofs.Ytopnagjbdjicaaa
