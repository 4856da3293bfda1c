/-
  Texts of this claim, put together.
-/
import Derived.Test.YtfbojcaedcimcaaGreatMap
import Derived.Test.YtfbojcaedcimcaaGreatMaq
import Derived.Test.YtfbojcaedcimcaaGreatMaj
import Derived.Test.YtfbojcaedcimcaaGreatMac
import Derived.Deep.RegionLaw
import Derived.Test.YtfbojcaedcimcaaGreatWregm
import Derived.Deep.Cut
import Derived.Deep.CutBlock
import Derived.Deep.CutRange
import Derived.Deep.RegionHeld3

/-
  The document's own frames of items; of a word; read.
-/
namespace Go.Proofs.YtfbojcaedcimcaaGreat
open Go.RowKit

theorem rput_frm {W : World} {f : Frm} {n : Nat} {a : Option Addr} {c : Nat} (hs : SlAt bV 256 W a c f.bod) (hl : f.bod.length = n) (hn : f.num < 18446744073709551616) :
    Calls Tryz.prog 18 #[.agg #[.bool f.ack, .int .u64 (f.num : Nat), .slice a n c]] W (BytesPost W (bytesF f)) := by
  subst hl
  exact rfput_any f a c W hs hn
theorem rput_data {W : World} {k : Nat} {s : ByteArray} {a : Option Addr} {c : Nat} (hs : SlAt bV 256 W a c (bsN s)) (hn : k < 18446744073709551616) :
    Calls Tryz.prog 18 #[.agg #[.bool false, .int .u64 (k : Nat), .slice a s.size c]] W (BytesPost W (bytesF (dataFm (k, s)))) :=
  rput_frm (f := dataFm (k, s)) hs (bsN_len s) hn
theorem rput_ack {W : World} {k : Nat} (hn : k < 18446744073709551616) :
    Calls Tryz.prog 18 #[.agg #[.bool true, .int .u64 (k : Nat), .slice none 0 0]] W (BytesPost W (bytesF (ackFm k))) :=
  rput_frm (f := ackFm k) (SlAt.none _ _ _) rfl hn

def FrRel (W : World) (rs : List ByteArray) (c i : Value) (wr : World) : Prop :=
  ∃ (k : Nat) (a : Option Addr) (cap : Nat), k ≤ rs.length ∧ i = .int .i64 ((k : Nat) : Int) ∧ c = .slice a k cap ∧ wr.ownsRow W.heap.size 9 1 c k ((rs.take k).map Value.string) ∧ Below W.heap.size W wr
def FrPost (W : World) (rs : List ByteArray) (E : Ending) (w' : World) : Prop := ∃ (a : Option Addr) (cap : Nat), E = .returned (.slice a rs.length cap) ∧ SlV w' a cap (rs.map Value.string) ∧ Below W.heap.size W w'

set_option maxRecDepth 20000 in
set_option maxHeartbeats 4000000 in
theorem rframed_go {A : Nat → Prop} {W : World} {g : Nat} {ao : Option Addr} {cap : Nat} {ss rs : List ByteArray} (hr : RowV A W ao cap ss.length 2 (itS g ss)) (hl : ss.length ≤ 1000) (hz : ∀ s ∈ ss, s.size ≤ 1000000) (hg : g ≤ 1000000)
    (hn : rs.length = ss.length) (hss : ∀ k (h : k < ss.length) (h2 : k < rs.length), rs[k] = wireD (g + k + 1, ss[k])) :
    Calls Tryz.prog 13 #[.slice ao ss.length cap] W (FrPost W rs) := by
  obtain ⟨i0, hi0, hz0, hz1, hz2⟩ := info_g Tryz.infoSt
  have hcv := fun (w : World) (s : ByteArray) => Lib.run_convert_string_bytes (P := Tryz.prog) w 9 32 5 s Tryz.underlying9 Tryz.underlying32 Tryz.underlying5
  have R := Lib.hid hr
  have SS := Lib.hid hss
  have NN := Lib.hid hn
  have ZZ := Lib.hid hz
  clear hr hss hn hz
  go_enter Tryz.func13, Tryz.ntmps13
  go_wp2_with fail
  go_loopw [3, 4] (fun c i wr => FrRel W rs c i wr) (fun _ i _ => ss.length - (intOf i).toNat)
  case atStart => exact ⟨0, none, 0, Nat.zero_le _, rfl, rfl, World.ownsRow_nil .., Below.refl _ _⟩
  case round =>
    obtain ⟨k, a, c, hk, rfl, rfl, hO, hb⟩ := hrel
    rw [NN.out] at hk
    by_cases hlt : k < ss.length
    · obtain ⟨x0, x1⟩ := itS_at k g ss hlt
      obtain ⟨bk, off, rfl, hbW, _, k0⟩ := R.out.cell _ _ x0
      obtain ⟨b2, off2, e2, _, _, k1⟩ := R.out.cell _ _ x1
      cases e2
      have hk2 : k < rs.length := by rw [NN.out]; exact hlt
      have SK := Lib.hid (SS.out k hlt hk2)
      have ZK := Lib.hid (ZZ.out ss[k] (List.getElem_mem _))
      have y0 : wr.cell? ⟨bk, off + k * 2, none⟩ = some (.int .u64 ((g + k + 1 : Nat) : Int)) := (hb.cell (p := ⟨bk, off + k * 2, none⟩) hbW).trans k0
      have y1 : wr.cell? ⟨bk, off + k * 2 + 1, none⟩ = some (.string ss[k]) := (hb.cell (p := ⟨bk, off + k * 2 + 1, none⟩) hbW).trans k1
      have z0 : wr.drew.cell? ⟨bk, off + k * 2, none⟩ = some (.int .u64 ((g + k + 1 : Nat) : Int)) := y0
      have z1 : wr.drew.cell? ⟨bk, off + k * 2 + 1, none⟩ = some (.string ss[k]) := y1
      have HB := Lib.hid hb
      have O := Lib.hid hO
      obtain ⟨m, hm⟩ : ∃ m, g + k + 1 = m := ⟨_, rfl⟩
      have HMM := Lib.hid (show m < 18446744073709551616 by omega)
      rw [hm] at y0 z0 SK
      have RT := Lib.hid (show (rs.take k).map Value.string ++ [.string (wireD (m, ss[k]))] = (rs.take (k + 1)).map Value.string by rw [List.take_succ_eq_append_getElem hk2, List.map_append, List.map_singleton, SK.out])
      generalize ss[k] = s at *
      have kb : (k : Int) < (ss.length : Int) := by omega
      have k0' : (0 : Int) ≤ (k : Int) := by omega
      have hlc : bk < wr.heap.size := cell_lt y0
      have BN := Lib.hid (body_new wr.drew s (by have := ZK.out; omega))
      have BB := Lib.hid (show Below wr.heap.size wr (Lib.bytesWorld wr.drew 5 s) from (drew_below wr).trans ((below_new wr.drew s).mono (Nat.le_refl _)))
      have v0 : (Lib.bytesWorld wr.drew 5 s).cell? ⟨bk, off + k * 2, none⟩ = some (.int .u64 (m : Int)) := cell_go y0 BB.out
      have v1 : (Lib.bytesWorld wr.drew 5 s).cell? ⟨bk, off + k * 2 + 1, none⟩ = some (.string s) := cell_go y1 BB.out
      clear hb hO x0 x1 k0 k1 hm
      go_wp2_with fail
      go_region_law (first
        | (refine step_append_lies _ rfl (.tmp 11) (.tmp 26) 43 rfl W.heap.size 9 i0 _ 1 16 Tryz.underlying43 hi0 hz0 hz1 hz2 rfl (by decide) _ _ _ (by simp [Act.eval]) (World.ownsRow.alloc O2.out _) ⟨w2.heap.size, 0, none⟩ 1 1 [.string (wireD (m, s))] (by simp [Act.eval]) rfl (World.news_of_block (heap_alloc_new _ _)) (by simp [Value.oneCell']) (by omega) (by unfold maxLen; omega) (by omega) (by have := B2.out.size; simp; omega) _ rfl ?_
           intro g2 cap2 w3 hown3 hgr3 hat3 hlt3
           have R3 := Lib.hid (show FrRel W rs (.slice (some ⟨g2, 0, none⟩) (k + 1) cap2) (.int .i64 ((k + 1 : Nat) : Int)) w3 from ⟨k + 1, _, _, hk2, rfl, rfl, by rw [← RT.out]; exact hown3, (B2.out.alloc B2.out.size _).grown hgr3 (by have := B2.out.size; simp; omega) (fun j e => (O2.out.lt j e).1)⟩)
           clear hown3 hgr3 hat3 hlt3)
        | (go_simp; go_at_call 18; refine (rput_data (s := s) BN.out.1 HMM.out).mono ?_; rintro e w2 ⟨a2, c2, rfl, hs2, hb2⟩; go_loud (have cv := conv_any hs2 (len := (bytesF (dataFm (m, s))).length) rfl; have hc2 := BB.out.trans (hb2.mono BB.out.size); have O2 := Lib.hid (own_below O.out hc2); have B2 := Lib.hid (HB.out.trans (hc2.mono HB.out.size)); rw [show strB (bytesF (dataFm (m, s))) = wireD (m, s) from rfl] at cv; clear hs2 hb2 hc2)))
      all_goals go_wp2_with fail
      all_goals go_roundw
      all_goals first
        | exact R3.out
        | (simp only [intOf]; omega)
    · obtain rfl : k = ss.length := by omega
      have dk : decide ((ss.length : Int) < (ss.length : Int)) = false := decide_eq_false (by omega)
      have P := Lib.hid (show FrPost W rs (.returned (.slice a ss.length c)) wr from by
        rw [List.take_of_length_le (by rw [NN.out]; exact Nat.le_refl _)] at hO
        obtain ⟨hl2, a2, c2, e2, hs⟩ := own_slv hO
        rw [List.length_map, NN.out] at e2
        cases e2
        exact ⟨a, c, by rw [NN.out], hs, hb⟩)
      clear hO hb
      go_wp2_with fail
      go_ret
      exact P.out

/-- Items, framed. -/
theorem rframed_any {A : Nat → Prop} {W : World} {v : Value} {g : Nat} {ss : List ByteArray} (h : RtR A W v g ss) (hl : ss.length ≤ 1000) (hz : ∀ s ∈ ss, s.size ≤ 1000000) (hg : g ≤ 1000000) : Calls Tryz.prog 13 #[v] W (FrPost W ((numd g ss).map wireD)) := by
  obtain ⟨a, cap, rfl, hr⟩ := h
  refine rframed_go hr hl hz hg (by rw [List.length_map, numd_len]) (fun k h1 h2 => ?_)
  have := numd_at ss g k h1
  rw [List.getElem?_eq_some_iff] at this
  obtain ⟨_, h3⟩ := this
  rw [List.getElem_map, h3]

end Go.Proofs.YtfbojcaedcimcaaGreat

/-
  The document's own dock, in memory.
-/
namespace Go.Proofs.YtfbojcaedcimcaaGreat
open Go.RowKit

theorem Tryz.infoRi : (Tryz.prog.info? 80).map (fun i => (i.zero, i.size, i.bytes)) = some (some (.agg #[.int .u64 0, .string ⟨#[]⟩]), 2, 24) := by kernel_rfl
theorem Tryz.infoSs : (Tryz.prog.info? 9).map (fun i => (i.zero, i.size, i.bytes)) = some (some (.string ⟨#[]⟩), 1, 16) := by kernel_rfl

/-- The cells of what is held: a number, a string. -/
def dI : List (Nat × ByteArray) → List Value
  | [] => []
  | x :: t => uN x.1 :: .string x.2 :: dI t
theorem dI_len : ∀ L : List (Nat × ByteArray), (dI L).length = L.length * 2
  | [] => rfl
  | x :: t => by rw [dI, List.length_cons, List.length_cons, dI_len t, List.length_cons]; omega
theorem dI_append : ∀ L M : List (Nat × ByteArray), dI (L ++ M) = dI L ++ dI M
  | [], _ => rfl
  | x :: t, M => by rw [List.cons_append, dI, dI, dI_append t M]; rfl
theorem dI_take (k : Nat) (L : List (Nat × ByteArray)) (hk : k ≤ L.length) : (dI L).take (k * 2) = dI (L.take k) := by
  have h : dI L = dI (L.take k) ++ dI (L.drop k) := by rw [← dI_append, List.take_append_drop]
  rw [h, List.take_left' (by rw [dI_len, List.length_take, Nat.min_eq_left hk])]
theorem dI_drop (k : Nat) (L : List (Nat × ByteArray)) (hk : k ≤ L.length) : (dI L).drop (k * 2) = dI (L.drop k) := by
  have h : dI L = dI (L.take k) ++ dI (L.drop k) := by rw [← dI_append, List.take_append_drop]
  rw [h, List.drop_left' (by rw [dI_len, List.length_take, Nat.min_eq_left hk])]
theorem dI_at : ∀ (i : Nat) (L : List (Nat × ByteArray)) (hi : i < L.length), (dI L)[i * 2]? = some (uN L[i].1) ∧ (dI L)[i * 2 + 1]? = some (.string L[i].2)
  | 0, x :: t, _ => ⟨rfl, rfl⟩
  | i + 1, x :: t, hi => by
    have := dI_at i t (by simpa using hi)
    rw [show (i + 1) * 2 = i * 2 + 1 + 1 by omega, dI, List.getElem?_cons_succ, List.getElem?_cons_succ, List.getElem?_cons_succ, List.getElem?_cons_succ, this.1, this.2]
    exact ⟨rfl, rfl⟩
theorem dI_one : ∀ (L : List (Nat × ByteArray)), ∀ u ∈ dI L, u.oneCell' = true
  | [], _, h => by cases h
  | x :: t, u, h => by
    rcases List.mem_cons.1 h with rfl | h
    · rfl
    · rcases List.mem_cons.1 h with rfl | h
      · rfl
      · exact dI_one t u h

def rdC (win next : Nat) (v : Value) : Nat → Value
  | 0 => .int .i64 ((win : Nat) : Int)
  | 1 => .int .u64 ((next : Nat) : Int)
  | _ => v
theorem wrapU {z : Int} (h : 0 ≤ z ∧ z ≤ 18446744073709551615) : IntKind.u64.wrap z = z := by
  simp only [IntKind.wrap, IntKind.bits, IntKind.signed]
  simp
  omega
/-- It writes into its block r alone; its rows lie from M on, where Z lets. -/
structure DrV (A : Nat → Prop) (w : World) (r M win next : Nat) (a : Option Addr) (cap : Nat) (L : List (Nat × ByteArray)) : Prop where
  c : Cel 3 w r (rdC win next (.slice a L.length cap))
  rM : r < M
  size : M ≤ w.heap.size
  row : RowV A w a cap L.length 2 (dI L)
def DrAt (Z : Nat → Prop) (w : World) (r M : Nat) (S : Dk) : Prop := ∃ a cap, DrV (fun k => M ≤ k ∧ Z k) w r M S.win S.next a cap S.held

section
variable {A Z : Nat → Prop} {w w' : World} {r M win next cap : Nat} {a : Option Addr} {L : List (Nat × ByteArray)} {F : Nat → Prop} {S : Dk}
theorem DrV.cells (h : DrV A w r M win next a cap L) : w.cell? ⟨r, 0, none⟩ = some (.int .i64 ((win : Nat) : Int)) ∧ w.cell? ⟨r, 1, none⟩ = some (.int .u64 ((next : Nat) : Int)) ∧ w.cell? ⟨r, 2, none⟩ = some (.slice a L.length cap) :=
  ⟨h.c.c 0 (by decide), h.c.c 1 (by decide), h.c.c 2 (by decide)⟩
theorem DrV.keep (h : DrV A w r M win next a cap L) (hk : Keep F w w') (hr : ¬ F r) (hF : ∀ k, k < w.heap.size → A k → ¬ F k) : DrV A w' r M win next a cap L :=
  ⟨h.c.keep hk hr, h.rM, Nat.le_trans h.size hk.size, h.row.carry hk.size (fun k h1 h2 => hk.block k h1 (hF k h1 h2))⟩
theorem DrV.below (h : DrV A w r M win next a cap L) (hb : Below w.heap.size w w') : DrV A w' r M win next a cap L := h.keep (F := fun _ => False) (Keep.ofBelow hb) id (fun _ _ _ => id)
theorem DrV.drewN (h : DrV A w r M win next a cap L) (q : Nat) : DrV A (w.drewN q) r M win next a cap L := h.below ⟨rfl, rfl, rfl, Nat.le_refl _, fun _ _ => rfl⟩
theorem DrAt.keep (h : DrAt Z w r M S) (hk : Keep F w w') (hr : ¬ F r) (hF : ∀ k, k < w.heap.size → M ≤ k ∧ Z k → ¬ F k) : DrAt Z w' r M S := by
  obtain ⟨a, cap, h⟩ := h
  exact ⟨a, cap, h.keep hk hr hF⟩
theorem DrAt.below (h : DrAt Z w r M S) (hb : Below w.heap.size w w') : DrAt Z w' r M S := h.keep (F := fun _ => False) (Keep.ofBelow hb) id (fun _ _ _ => id)

/-- Where a number stands. -/
theorem ins_split {n : Nat} {s : ByteArray} : ∀ {L : List (Nat × ByteArray)} {k : Nat}, k ≤ L.length → (∀ i (h : i < L.length), i < k → L[i].1 < n) → (∀ h : k < L.length, n ≤ L[k].1) → ins n s L = L.take k ++ (n, s) :: L.drop k
  | [], k, h1, _, _ => by
    obtain rfl : k = 0 := by simpa using h1
    rfl
  | x :: t, 0, _, _, h3 => by
    rw [ins, if_neg (by have := h3 (Nat.succ_pos _); simp only [List.getElem_cons_zero] at this; omega)]
    rfl
  | x :: t, k + 1, h1, h2, h3 => by
    rw [ins, if_pos (show x.1 < n from h2 0 (Nat.succ_pos _) (Nat.succ_pos _)), ins_split (k := k) (by simpa using h1) (fun i h hi => h2 (i + 1) (by rw [List.length_cons]; omega) (by omega)) (fun h => h3 (by rw [List.length_cons]; omega))]
    rfl
theorem look_no {n k : Nat} {L : List (Nat × ByteArray)} (hp : L.Pairwise (fun x y => x.1 < y.1)) (h2 : ∀ i (h : i < L.length), i < k → L[i].1 < n) (h3 : ∀ h : k < L.length, n < L[k].1) : L.lookup n = none := by
  refine lookup_none.2 (fun x hx e => ?_)
  obtain ⟨i, hi, rfl⟩ := List.mem_iff_getElem.1 hx
  rcases Nat.lt_or_ge i k with h | h
  · have := h2 i hi h
    omega
  · have hk : k < L.length := by omega
    have := h3 hk
    rcases Nat.eq_or_lt_of_le h with e2 | e2
    · subst e2; omega
    · have := List.pairwise_iff_getElem.1 hp k i hk hi e2
      omega
theorem look_yes {k : Nat} {L : List (Nat × ByteArray)} (hk : k < L.length) : (L.lookup L[k].1).isSome = true := by
  rw [← mem_keys]
  exact List.mem_map.2 ⟨L[k], List.getElem_mem _, rfl⟩
end

theorem lit2_row (w : World) (u v : Value) (cs : Array Value) (t : TypeId) (hcs : cs = #[u, v]) : RowV (fun k => k = w.heap.size) (w.alloc (.cells cs t)) (some ⟨w.heap.size, 0, none⟩) 1 1 2 [u, v] := by
  subst hcs
  refine ⟨rfl, Nat.le_refl _, by unfold maxLen; omega, (fun e => by cases e), fun j x hj => ⟨w.heap.size, 0, rfl, by simp, rfl, ?_⟩⟩
  have h := World.news_of_block (cs := #[u, v]) (fr := (0, 0)) (heap_alloc_new w (.cells #[u, v] t)) j x hj
  rw [Addr.add_lit] at h
  exact h
theorem none_own (w : World) (e : TypeId) (B sz : Nat) (hB : B ≤ w.heap.size) : (w.alloc (.cells #[] e)).ownsRow B e sz (.slice (some ⟨w.heap.size, 0, none⟩) 0 0) 0 [] :=
  World.ownsRow_lit (base := B) (e := e) (size := sz) w #[] 0 hB (by unfold maxLen; omega) (by simp)

/-- Another row is stored. -/
theorem rd_put {Z : Nat → Prop} {wc w4 w5 : World} {r M win next co m cap4 : Nat} {ao a4 : Option Addr} {L L' : List (Nat × ByteArray)} (hR : DrV (fun k => M ≤ k ∧ Z k) wc r M win next ao co L) (hb : Below wc.heap.size wc w4) (hZ : ∀ k, wc.heap.size ≤ k → Z k) (hm : m = L'.length)
    (hown : w4.ownsRow wc.heap.size 80 2 (.slice a4 m cap4) m (dI L')) (h5 : Alike (w4.setCell ⟨r, 2, none⟩ (.slice a4 m cap4)) w5) :
    (∃ a c, DrV (fun k => M ≤ k ∧ Z k) w5 r M win next a c L') ∧ Keep (fun k => k = r) wc w5 := by
  subst hm
  have k5 : Keep (fun k => k = r) wc w5 := h5.keep ((Keep.ofBelow (F := fun k => k = r) hb).setCell (p := ⟨r, 2, none⟩) rfl _)
  have hrM := hR.rM
  have hsz := hR.size
  refine ⟨⟨a4, cap4, ?_, hrM, Nat.le_trans hR.size k5.size, ?_⟩, k5⟩
  · refine Cel.conv (Cel.keep (F := fun _ => False) ((hR.c.below hb).put 2 _) (h5.keep (Keep.refl _ _)) id) (fun o ho => ?_)
    match o, ho with
    | 0, _ => rfl
    | 1, _ => rfl
    | 2, _ => rfl
  · obtain ⟨a', c', e, hr⟩ := own_row hown
    cases e
    have h6 : w5.heap.size = w4.heap.size := by rw [h5.1]; simp [World.setCell]
    refine (hr.mono (A' := fun k => wc.heap.size ≤ k) (fun k _ hk => (hown.lt k hk).1)).carry (by omega) (fun k hk hA => ?_) |>.mono (fun k _ h => ⟨Nat.le_trans hsz h, hZ k h⟩)
    rw [h5.1]
    exact Below.heap_setCell _ ⟨r, 2, none⟩ _ _ (by show k ≠ r; omega)

def RdNewPost (W : World) (win : Nat) (e : Ending) (w : World) : Prop := ∃ r, e = .returned (.pointer (some ⟨r, 0, none⟩)) ∧ (∀ Z : Nat → Prop, DrAt Z w r w.heap.size (Dk.new win)) ∧ W.heap.size ≤ r ∧ Below W.heap.size W w
theorem rd_new (win : Nat) (W : World) : Calls Tryz.prog 7 #[.int .i64 (win : Nat)] W (RdNewPost W win) := by
  have P := Lib.hid (show RdNewPost W win (.returned (.pointer (some ⟨W.heap.size, 0, none⟩))) (W.alloc (.cells #[.int .i64 ((win : Nat) : Int), .int .u64 1, .slice none 0 0] 57)) from by
    have hc := Cel.new W [.int .i64 ((win : Nat) : Int), .int .u64 1, .slice none 0 0] 57
    refine ⟨_, rfl, fun Z => ⟨none, 0, ⟨hc.conv (fun o ho => ?_), by simp, Nat.le_refl _, RowV.none _ _ _⟩⟩, Nat.le_refl _, (Below.refl _ _).alloc (Nat.le_refl _) _⟩
    match o, ho with
    | 0, _ => rfl
    | 1, _ => rfl
    | 2, _ => rfl)
  go_enter Tryz.func7, Tryz.ntmps7
  go_wp2_with fail
  go_ret
  exact P.out

end Go.Proofs.YtfbojcaedcimcaaGreat

/-
  The document's own dock: Take.
-/
namespace Go.Proofs.YtfbojcaedcimcaaGreat
open Go.RowKit

def RtPost (Z : Nat → Prop) (W : World) (r M : Nat) (S : Dk) (num : Nat) (s : ByteArray) (e : Ending) (w : World) : Prop :=
  ∃ a cap, e = .returned (.tuple #[.slice a (S.gave num s).length cap, .bool (S.may num)]) ∧ SlV w a cap ((S.gave num s).map Value.string) ∧ DrAt Z w r M (S.came num s) ∧ Keep (fun k => k = r) W w

/-- Between two rounds. -/
def RgRel (Z : Nat → Prop) (W : World) (r M win next hi N1 : Nat) (L0 : List (Nat × ByteArray)) (v : Value) (wr : World) : Prop :=
  ∃ (n2 : Nat) (L2 : List (Nat × ByteArray)) (ss : List ByteArray) (a : Option Addr) (cap : Nat), wr.ownsRow N1 9 1 v ss.length (ss.map Value.string) ∧ DrV (fun k => (M ≤ k ∧ Z k) ∧ k < N1) wr r M win n2 a cap L2 ∧
    Up n2 hi L2 ∧ n2 ≤ hi ∧ goN next L0 = (ss ++ (goN n2 L2).1, (goN n2 L2).2) ∧ n2 = next + ss.length ∧ Keep (fun k => k = r) W wr

section
variable {Z : Nat → Prop} {W wr w2 w4 : World} {r M win next hi N1 n2 : Nat} {L0 L2 t : List (Nat × ByteArray)} {ss : List ByteArray} {a A : Option Addr} {cap : Nat} {x : ByteArray}

theorem rg_step {av : Option Addr} {cv g2 cap2 : Nat} {o : Obj} (hO : wr.ownsRow N1 9 1 (.slice av ss.length cv) ss.length (ss.map Value.string)) (hR : DrV (fun k => (M ≤ k ∧ Z k) ∧ k < N1) wr r M win n2 a cap ((n2, x) :: t)) (hN1 : M ≤ N1) (hWN : W.heap.size ≤ N1)
    (hU : Up n2 hi ((n2, x) :: t)) (hg : goN next L0 = (ss ++ (goN n2 ((n2, x) :: t)).1, (goN n2 ((n2, x) :: t)).2)) (hn : n2 = next + ss.length) (hK : Keep (fun k => k = r) W wr)
    (hown : w2.ownsRow N1 9 1 (.slice (some ⟨g2, 0, none⟩) (ss.length + 1) cap2) (ss.length + 1) (ss.map Value.string ++ [.string x])) (hgr : (wr.alloc o).grownBy w2 (Value.slice av ss.length cv).ownBlock)
    (hA : (if cap = 1 then a else a.map (·.add (1 * 2))) = A) (h4 : Alike ((w2.setCell ⟨r, 2, none⟩ (.slice A t.length (cap - 1))).setCell ⟨r, 1, none⟩ (.int .u64 ((n2 + 1 : Nat) : Int))) w4) :
    RgRel Z W r M win next hi N1 L0 (.slice (some ⟨g2, 0, none⟩) (ss.length + 1) cap2) w4 := by
  have hrow : ∀ j, (Value.slice av ss.length cv).ownBlock = some j → N1 ≤ j ∧ j < wr.heap.size := hO.lt
  have hrM := hR.rM
  have k2 : Keep (fun k => (Value.slice av ss.length cv).ownBlock = some k) wr w2 := ((Keep.refl _ wr).alloc o).grown hgr (fun k h => Or.inl h)
  have k4 : Keep (fun k => (Value.slice av ss.length cv).ownBlock = some k ∨ k = r) wr w4 := h4.keep (Keep.setCell (F := fun k => (Value.slice av ss.length cv).ownBlock = some k ∨ k = r) (Keep.setCell (F := fun k => (Value.slice av ss.length cv).ownBlock = some k ∨ k = r) (k2.mono (fun i h => Or.inl h)) (p := ⟨r, 2, none⟩) (Or.inr rfl) _) (p := ⟨r, 1, none⟩) (Or.inr rfl) _)
  have c2 := hR.c.keep k2 (fun f => by have := (hrow r f).1; omega)
  have c4 : Cel 3 w4 r (rdC win (n2 + 1) (.slice A t.length (cap - 1))) := by
    refine Cel.conv (Cel.keep (F := fun _ => False) ((c2.put 2 _).put 1 _) (h4.keep (Keep.refl _ _)) id) (fun o ho => ?_)
    match o, ho with
    | 0, _ => rfl
    | 1, _ => rfl
    | 2, _ => rfl
  have hr1 := hR.row.drop 1 (by simp)
  rw [hA] at hr1
  have hr2 : RowV (fun k => (M ≤ k ∧ Z k) ∧ k < N1) w4 A (cap - 1) t.length 2 (dI t) := by
    have e : (dI ((n2, x) :: t)).drop (1 * 2) = dI t := rfl
    rw [e] at hr1
    refine hr1.carry k4.size (fun k hk h => k4.block k hk (fun f => ?_))
    rcases f with f | f
    · have := (hrow k f).1; omega
    · omega
  have hown4 : w4.ownsRow N1 9 1 (.slice (some ⟨g2, 0, none⟩) (ss.length + 1) cap2) (ss.length + 1) (ss.map Value.string ++ [.string x]) := by
    refine own_carry hown (fun k hk => ?_)
    have hk2 := (hown.lt k hk).1
    have e1 : w4.heap[k]? = ((w2.setCell ⟨r, 2, none⟩ (.slice A t.length (cap - 1))).setCell ⟨r, 1, none⟩ (.int .u64 ((n2 + 1 : Nat) : Int))).heap[k]? := by rw [h4.1]
    rw [e1, Below.heap_setCell _ ⟨r, 1, none⟩ _ _ (by show k ≠ r; omega), Below.heap_setCell _ ⟨r, 2, none⟩ _ _ (by show k ≠ r; omega)]
  refine ⟨n2 + 1, t, ss ++ [x], A, cap - 1, ?_, ⟨c4, hrM, Nat.le_trans hR.size k4.size, hr2⟩, hU.tail, ?_, ?_, ?_, ?_⟩
  · rw [List.length_append, List.map_append]
    exact hown4
  · exact (hU.2 (n2, x) (List.mem_cons_self ..)).2
  · rw [hg, goN_first, List.append_assoc]
    rfl
  · rw [List.length_append, List.length_singleton]; omega
  · refine hK.trans k4 (fun i hi f => ?_)
    rcases f with f | f
    · have := (hrow i f).1; omega
    · exact f

theorem rg_done {S : Dk} {num : Nat} {s : ByteArray} {v : Value} (hm : S.may num = true) (h0 : L0 = ins num s S.held) (hnx : next = S.next) (hw : win = S.win) (hO : wr.ownsRow N1 9 1 v ss.length (ss.map Value.string)) (hR : DrV (fun k => (M ≤ k ∧ Z k) ∧ k < N1) wr r M win n2 a cap L2)
    (hg : goN next L0 = (ss ++ (goN n2 L2).1, (goN n2 L2).2)) (hn : n2 = next + ss.length) (hK : Keep (fun k => k = r) W wr) (hz : goN n2 L2 = ([], L2)) : RtPost Z W r M S num s (.returned (.tuple #[v, .bool true])) wr := by
  subst h0 hnx hw
  rw [hz, List.append_nil] at hg
  obtain ⟨-, av, cv, rfl, hs⟩ := own_slv hO
  have e1 : S.gave num s = ss := by unfold Dk.gave Dk.went; rw [hm, if_pos rfl, hg]
  have e2 : S.came num s = ⟨S.win, n2, L2⟩ := by
    unfold Dk.came Dk.take Dk.went
    rw [hm, if_pos rfl, hg, hn]
  unfold RtPost
  rw [e1, e2, hm]
  rw [List.length_map]
  exact ⟨av, cv, rfl, hs, ⟨a, cap, hR.c, hR.rM, hR.size, hR.row.mono (fun k _ h => h.1)⟩, hK⟩
end

section
variable {Z : Nat → Prop} {W : World} {r M : Nat} {S : Dk}

set_option maxRecDepth 20000 in
set_option maxHeartbeats 8000000 in
theorem rd_take {c num : Nat} {s : ByteArray} (h : DrAt Z W r M S) (hS : S.ok c) (hc : c ≤ 1000) (hn : num < 18446744073709551616) (hZ : ∀ k, W.heap.size ≤ k → Z k) :
    Calls Tryz.prog 17 #[.pointer (some ⟨r, 0, none⟩), .int .u64 (num : Nat), .string s] W (RtPost Z W r M S num s) := by
  obtain ⟨ao, co, hR⟩ := h
  have hnx := hS.next
  have hwin := hS.win
  have NO := Lib.hid (fun (k : Nat) (hm : S.may num = false) => show RtPost Z W r M S num s (.returned (.tuple #[.slice none 0 0, .bool (S.may num)])) (W.drewN k) from by
    have h1 : S.gave num s = [] := by unfold Dk.gave; rw [hm]; rfl
    have h2 : S.came num s = S := by unfold Dk.came; rw [hm]; rfl
    unfold RtPost
    rw [h1, h2]
    exact ⟨none, 0, rfl, SlV.none _, ⟨ao, co, hR.drewN k⟩, (Keep.refl _ W).drewN k⟩)
  obtain ⟨c0, c1, c2⟩ := hR.cells
  have HR := Lib.hid hR
  have HZ := Lib.hid hZ
  have HS := Lib.hid hS
  clear hR hS
  have ww : IntKind.u64.wrap (S.win : Int) = (S.win : Int) := wrapU (by omega)
  go_enter Tryz.func17, Tryz.ntmps17
  by_cases h1 : num < S.next
  · have d1 : decide ((num : Int) < (S.next : Int)) = true := decide_eq_true (by omega)
    have d2 : decide (num < S.next) = true := decide_eq_true h1
    have hm : S.may num = false := by
      cases e : S.may num
      · rfl
      · have := (Dk.may_is.1 e).1; omega
    have NO2 := Lib.hid (fun k => NO.out k hm)
    rw [hm] at NO2
    clear NO h1 hm
    go_wp2_with fail
    go_quiet (fail)
    go_wp2_with fail
    go_ret2
    exact NO2.out _
  · have d1 : decide ((num : Int) < (S.next : Int)) = false := decide_eq_false (by omega)
    have d2 : decide (num < S.next) = false := decide_eq_false h1
    obtain ⟨d, hd⟩ : ∃ d, d = num - S.next := ⟨_, rfl⟩
    have wd : IntKind.u64.wrap ((num : Int) - (S.next : Int)) = (d : Int) := by rw [wrapU (by omega)]; omega
    by_cases h2 : d < S.win
    · have d3 : decide ((d : Int) ≥ (S.win : Int)) = false := decide_eq_false (by omega)
      have d4 : decide (S.win ≤ d) = false := decide_eq_false (by omega)
      have HD := Lib.hid hd
      clear hd
      go_wp2_with fail
      go_quiet (fail)
      go_upto_block 0 with fail
      have NO1 := Lib.hid (fun hm => NO.out nq hm)
      have R1 := Lib.hid (HR.out.drewN nq)
      have KW := Lib.hid (show Keep (fun k => k = r) W (W.drewN nq) from (Keep.refl _ W).drewN nq)
      clear NO HR c0 c1 c2 wd d1 d2 d3 d4 ww
      generalize W.drewN nq = w1 at *
      obtain ⟨c0, c1, c2⟩ := R1.out.cells
      obtain ⟨n, hn'⟩ : ∃ n, n = S.held.length := ⟨_, rfl⟩
      rw [← hn'] at c2
      have NN := Lib.hid hn'
      have hfit := R1.out.row.fit
      have hmax := R1.out.row.max
      unfold maxLen at hmax
      rw [← hn'] at hfit
      clear hn'
      go_cut [8] from 30 to 50 (fun v wx => ∃ k, v = .int .i64 ((k : Nat) : Int) ∧ k ≤ n ∧ Hid (∀ i (h : i < S.held.length), i < k → S.held[i].1 < num) ∧ Hid (∀ h : k < S.held.length, num ≤ S.held[k].1) ∧ wx = w1)
      case first =>
        go_wp2_with fail
        go_loopw [8] (fun v wx => ∃ k, v = .int .i64 ((k : Nat) : Int) ∧ k ≤ n ∧ Hid (∀ i (h : i < S.held.length), i < k → S.held[i].1 < num) ∧ wx = w1) (fun v _ => n - (intOf v).toNat)
        case atStart => exact ⟨0, rfl, Nat.zero_le _, Lib.hid (fun i h hi => by omega), by first | rfl | trivial⟩
        case round =>
          obtain ⟨k, rfl, hk, HK, rfl⟩ := hrel
          by_cases hlt : k < n
          · have hk2 : k < S.held.length := by rw [← NN.out]; exact hlt
            obtain ⟨x0, -⟩ := dI_at k S.held hk2
            obtain ⟨b, off, rfl, hb, -, k0⟩ := R1.out.row.cell _ _ x0
            unfold uN at k0
            have g1 : decide ((k : Int) < (n : Int)) = true := decide_eq_true (by omega)
            have g2 : decide (k < n) = true := decide_eq_true hlt
            have i0 : (0 : Int) ≤ (k : Int) := by omega
            have i1 : (k : Int) < (n : Int) := by omega
            by_cases hl : S.held[k].1 < num
            · have HK2 := Lib.hid (show ∀ i (h : i < S.held.length), i < k + 1 → S.held[i].1 < num from fun i h hi => by
                by_cases e : i = k
                · subst e; exact hl
                · exact HK.out i h (by omega))
              have g3 : decide (((S.held[k].1 : Nat) : Int) < (num : Int)) = true := decide_eq_true (by omega)
              have wk : IntKind.i64.wrap ((k : Int) + 1) = (k : Int) + 1 := wrapN (by have := HS.out.len.1; have := NN.out; omega)
              clear x0 HK
              generalize S.held[k].1 = z at *
              clear hk2
              go_wp2_with fail
              go_roundw
              case rel => exact ⟨k + 1, by go_num, by omega, HK2, by first | rfl | trivial⟩
              case measure => simp only [intOf]; omega
            · have HE := Lib.hid (show ∀ h : k < S.held.length, num ≤ S.held[k].1 from fun _ => by omega)
              have g3 : decide (((S.held[k].1 : Nat) : Int) < (num : Int)) = false := decide_eq_false (by omega)
              clear x0
              generalize S.held[k].1 = z at *
              clear hk2
              go_wp2_with fail
              go_meet
              exact ⟨k, rfl, hk, HK, HE, by first | rfl | trivial⟩
          · obtain rfl : k = n := by omega
            have g1 : decide ((k : Int) < (k : Int)) = false := decide_eq_false (by omega)
            have g2 : decide (k < k) = false := decide_eq_false (by omega)
            have HE := Lib.hid (show ∀ h : k < S.held.length, num ≤ S.held[k].1 from fun h => by have := NN.out; omega)
            go_wp2_with fail
            go_meet
            exact ⟨k, rfl, hk, HK, HE, by first | rfl | trivial⟩
      case rest =>
        obtain ⟨k, rfl, hk, HK, HE, hwc⟩ := hcut
        subst hwc
        have wk : IntKind.i64.wrap (k : Int) = (k : Int) := wrapN (by have := HS.out.len.1; have := NN.out; omega)
        have kn : k ≤ 15 := by have := HS.out.len.1; have := NN.out; omega
        by_cases hyes : ∃ h : k < S.held.length, S.held[k].1 = num
        · obtain ⟨hk2, hkn⟩ := hyes
          have hm : S.may num = false := by
            cases e : S.may num
            · rfl
            · have h3 := (Dk.may_is.1 e).2.2
              have h4 := look_yes hk2
              rw [hkn, h3] at h4
              cases h4
          have NO2 := Lib.hid (NO1.out hm)
          rw [hm] at NO2
          obtain ⟨x0, -⟩ := dI_at k S.held hk2
          rw [hkn] at x0
          obtain ⟨b, off, rfl, hb, -, k0⟩ := R1.out.row.cell _ _ x0
          unfold uN at k0
          have hlt : k < n := by rw [NN.out]; exact hk2
          have g1 : decide ((k : Int) < (n : Int)) = true := decide_eq_true (by omega)
          have g2 : decide (k < n) = true := decide_eq_true hlt
          have i0 : (0 : Int) ≤ (k : Int) := by omega
          have i1 : (k : Int) < (n : Int) := by omega
          clear x0 hkn hk2 NO1 HK HE
          go_wp2_with fail
          go_ret2
          exact NO2.out
        · have HG := Lib.hid (show ∀ h : k < S.held.length, num < S.held[k].1 from fun h => by
            have := HE.out h
            have : ¬ S.held[k].1 = num := fun e => hyes ⟨h, e⟩
            omega)
          have hlk : S.held.lookup num = none := look_no HS.out.up.1 HK.out HG.out
          have HI := Lib.hid (ins_split (s := s) (by rw [← NN.out]; exact hk) HK.out HE.out)
          have hm : S.may num = true := Dk.may_is.2 ⟨by omega, by have := HD.out; omega, hlk⟩
          have HM := Lib.hid hm
          clear NO1 hyes hlk hm
          go_upto_region 6 with fail
          go_cut [69] from 51 to 69 (fun v wx => v = .bool false ∧ wx = wc)
          case first =>
            by_cases hlt : k < n
            · have hk2 : k < S.held.length := by rw [← NN.out]; exact hlt
              obtain ⟨x0, -⟩ := dI_at k S.held hk2
              have hg := HG.out hk2
              obtain ⟨b, off, rfl, hb, -, k0⟩ := R1.out.row.cell _ _ x0
              unfold uN at k0
              have g1 : decide ((k : Int) < (n : Int)) = true := decide_eq_true (by omega)
              have g2 : decide (k < n) = true := decide_eq_true hlt
              have i0 : (0 : Int) ≤ (k : Int) := by omega
              have i1 : (k : Int) < (n : Int) := by omega
              have ne : (((S.held[k].1 : Nat) : Int) == (num : Int)) = false := by simp; omega
              clear x0 hg HG HK HE
              generalize S.held[k].1 = z at *
              go_wp2_with fail
              go_meet
              exact ⟨rfl, rfl⟩
            · have g1 : decide ((k : Int) < (n : Int)) = false := decide_eq_false (by omega)
              have g2 : decide (k < n) = false := decide_eq_false hlt
              go_wp2_with fail
              go_meet
              exact ⟨rfl, rfl⟩
          case rest =>
            obtain ⟨rfl, rfl⟩ := hcut
            clear HG HK HE
            go_upto_region 8 with fail
            have hU0 : Up S.next (S.next + S.win) (ins num s S.held) := HS.out.ins HM.out s
            have UU := Lib.hid hU0
            go_cut [] from 70 to 92 (fun wx => ∃ a c, DrV (fun k => M ≤ k ∧ Z k) wx r M S.win S.next a c (ins num s S.held) ∧ Keep (fun k => k = r) W wx)
            case first =>
              obtain ⟨i0, hi0, hz0, hz1, hz2⟩ := info_g Tryz.infoRi
              have hkc : k ≤ co := by omega
              have hrW : r < wc.heap.size := R1.out.c.lt
              have hk15 : n ≤ 15 := by have := HS.out.len.1; have := NN.out; omega
              obtain ⟨csA, hcA⟩ : ∃ csA, csA = dI (S.held.take k) := ⟨_, rfl⟩
              obtain ⟨csD, hcD⟩ : ∃ csD, csD = dI (S.held.drop k) := ⟨_, rfl⟩
              have hkl : k ≤ S.held.length := by rw [← NN.out]; exact hk
              have LA := Lib.hid (show csA.length = k * 2 by rw [hcA, dI_len, List.length_take, Nat.min_eq_left hkl])
              have LD := Lib.hid (show csD.length = (n - k) * 2 by rw [hcD, dI_len, List.length_drop, NN.out])
              have NA := Lib.hid (show ∀ u ∈ csA, u.oneCell' = true by rw [hcA]; exact dI_one _)
              have ND := Lib.hid (show ∀ u ∈ csD, u.oneCell' = true by rw [hcD]; exact dI_one _)
              have SA := Lib.hid (show RowV (fun k => M ≤ k ∧ Z k) wc ao co k 2 csA by rw [hcA, ← dI_take k _ hkl]; exact R1.out.row.take k hkl)
              have SD := Lib.hid (show RowV (fun k => M ≤ k ∧ Z k) wc (if co = k then ao else Option.map (fun x => x.add (k * 2)) ao) (co - k) (n - k) 2 csD by rw [hcD, ← dI_drop k _ hkl, NN.out]; exact R1.out.row.drop k hkl)
              have LL := Lib.hid (show csA ++ [.int .u64 (num : Int), .string s] ++ csD = dI (ins num s S.held) by rw [HI.out, hcA, hcD, dI_append, List.append_assoc]; rfl)
              have ML := Lib.hid (show k + 1 + (n - k) = (ins num s S.held).length by rw [ins_len, ← NN.out]; omega)
              have OA := Lib.hid (own_below (none_own wc 80 wc.heap.size 2 (Nat.le_refl _)) (drew_below _))
              have OB := Lib.hid (own_below (own_below (none_own wc 80 wc.heap.size 2 (Nat.le_refl _)) ((Below.refl _ _).alloc (Nat.le_refl _) (.cells #[.int .u64 (num : Int), .string s] 80))) (drew_below _))
              have OC := Lib.hid (own_below (none_own (wc.alloc (.cells #[.int .u64 (num : Int), .string s] 80)) 80 wc.heap.size 2 (by simp)) (drew_below _))
              have LB := Lib.hid ((lit2_row (wc.alloc (.cells #[] 80)) (.int .u64 (num : Int)) (.string s) #[.int .u64 (num : Int), .string s] 80 rfl).below (drew_below _))
              have LC := Lib.hid (((lit2_row wc (.int .u64 (num : Int)) (.string s) #[.int .u64 (num : Int), .string s] 80 rfl).below ((Below.refl _ _).alloc (Nat.le_refl _) (.cells #[] 80))).below (drew_below _))
              have HC := Lib.hid c2
              clear hcA hcD hkl hU0 UU c0 c1 wk hfit HS h1 h2 HD
              refine wp_region_noPanic ?_
              refine wp_region_z (S := (fun w' => w'.cell? ⟨r, 2, none⟩ = some (.slice ao n co) ∧ Hid (Below wc.heap.size wc w'))) (z := 23) (by kernel_rfl) ?_ (fun hHeld => ?_)
              · exact ⟨c2, Lib.hid (drew_below wc)⟩
              refine anyZ_take (i := 0) (oi := { dst := some 70, op := Op.move (Operand.tmp 0), type := 30, pos := "ref.go:237", after := #[], guard := none }) (v := ?_) rfl (by kernel_rfl) (by kernel_rfl) (by kernel_rfl) (by kernel_rfl) (fun _ _ _ h => h) (Or.inl ⟨by rfl, ?_⟩) (by assumption) ?_
              rotate_left
              · (intro w hSw; (try dsimp only at hSw); go_simp; try with_reducible rfl)
              ((try simp only [Act.put]); (try simp only [List.setIfInBounds_toArray]); (try simp only [List.set_cons_succ]); (try simp only [List.set_cons_zero]))
              refine anyZ_take (i := 2) (oi := { dst := some 72, op := Op.move (Operand.tmp 0), type := 30, pos := "ref.go:237", after := #[], guard := none }) (v := ?_) rfl (by kernel_rfl) (by kernel_rfl) (by kernel_rfl) (by kernel_rfl) (fun _ _ _ h => h) (Or.inl ⟨by rfl, ?_⟩) (by assumption) ?_
              rotate_left
              · (intro w hSw; (try dsimp only at hSw); go_simp; try with_reducible rfl)
              ((try simp only [Act.put]); (try simp only [List.setIfInBounds_toArray]); (try simp only [List.set_cons_succ]); (try simp only [List.set_cons_zero]))
              refine anyZ_take (i := 3) (oi := { dst := some 73, op := Op.nilCheck (Operand.tmp 72), type := 0, pos := "ref.go:237", after := #[{ on := 2, ground := Ground.data }], guard := none }) (v := ?_) rfl (by kernel_rfl) (by kernel_rfl) (by kernel_rfl) (by kernel_rfl) (fun _ _ _ h => h) (Or.inl ⟨by rfl, ?_⟩) (by assumption) ?_
              rotate_left
              · (intro w hSw; (try dsimp only at hSw); go_simp; try with_reducible rfl)
              ((try simp only [Act.put]); (try simp only [List.setIfInBounds_toArray]); (try simp only [List.set_cons_succ]); (try simp only [List.set_cons_zero]))
              refine anyZ_take (i := 4) (oi := { dst := some 74, op := Op.fieldAddr 57 (Operand.tmp 73) 2, type := 0, pos := "ref.go:237", after := #[{ on := 3, ground := Ground.data }], guard := none }) (v := ?_) rfl (by kernel_rfl) (by kernel_rfl) (by kernel_rfl) (by kernel_rfl) (fun _ _ _ h => h) (Or.inl ⟨by rfl, ?_⟩) (by assumption) ?_
              rotate_left
              · (intro w hSw; (try dsimp only at hSw); go_simp; try with_reducible rfl)
              ((try simp only [Act.put]); (try simp only [List.setIfInBounds_toArray]); (try simp only [List.set_cons_succ]); (try simp only [List.set_cons_zero]))
              refine anyZ_take (i := 5) (oi := { dst := some 75, op := Op.load 39 (Operand.tmp 74), type := 39, pos := "ref.go:237", after := #[{ on := 4, ground := Ground.data }], guard := none }) (v := ?_) rfl (by kernel_rfl) (by kernel_rfl) (by kernel_rfl) (by kernel_rfl) (fun _ _ _ h => h) (Or.inl ⟨by rfl, ?_⟩) (by assumption) ?_
              rotate_left
              · (intro w hSw; (try dsimp only at hSw); go_simp; try with_reducible rfl)
              ((try simp only [Act.put]); (try simp only [List.setIfInBounds_toArray]); (try simp only [List.set_cons_succ]); (try simp only [List.set_cons_zero]))
              refine anyZ_take (i := 6) (oi := { dst := some 76, op := Op.move (Operand.tmp 8), type := 3, pos := "ref.go:237", after := #[], guard := none }) (v := ?_) rfl (by kernel_rfl) (by kernel_rfl) (by kernel_rfl) (by kernel_rfl) (fun _ _ _ h => h) (Or.inl ⟨by rfl, ?_⟩) (by assumption) ?_
              rotate_left
              · (intro w hSw; (try dsimp only at hSw); go_simp; try with_reducible rfl)
              ((try simp only [Act.put]); (try simp only [List.setIfInBounds_toArray]); (try simp only [List.set_cons_succ]); (try simp only [List.set_cons_zero]))
              refine anyZ_take (i := 7) (oi := { dst := some 77, op := Op.slice 39 (Operand.tmp 75) none (some (Operand.tmp 76)) none, type := 39, pos := "ref.go:237", after := #[{ on := 5, ground := Ground.data }, { on := 6, ground := Ground.data }], guard := none }) (v := ?_) rfl (by kernel_rfl) (by kernel_rfl) (by kernel_rfl) (by kernel_rfl) (fun _ _ _ h => h) (Or.inl ⟨by rfl, ?_⟩) (by assumption) ?_
              rotate_left
              · (intro w hSw; (try dsimp only at hSw); go_simp; try with_reducible rfl)
              ((try simp only [Act.put]); (try simp only [List.setIfInBounds_toArray]); (try simp only [List.set_cons_succ]); (try simp only [List.set_cons_zero]))
              refine anyZ_take (i := 9) (oi := { dst := some 79, op := Op.move (Operand.tmp 1), type := 47, pos := "ref.go:237", after := #[], guard := none }) (v := ?_) rfl (by kernel_rfl) (by kernel_rfl) (by kernel_rfl) (by kernel_rfl) (fun _ _ _ h => h) (Or.inl ⟨by rfl, ?_⟩) (by assumption) ?_
              rotate_left
              · (intro w hSw; (try dsimp only at hSw); go_simp; try with_reducible rfl)
              ((try simp only [Act.put]); (try simp only [List.setIfInBounds_toArray]); (try simp only [List.set_cons_succ]); (try simp only [List.set_cons_zero]))
              refine anyZ_take (i := 10) (oi := { dst := some 80, op := Op.move (Operand.tmp 2), type := 9, pos := "ref.go:237", after := #[], guard := none }) (v := ?_) rfl (by kernel_rfl) (by kernel_rfl) (by kernel_rfl) (by kernel_rfl) (fun _ _ _ h => h) (Or.inl ⟨by rfl, ?_⟩) (by assumption) ?_
              rotate_left
              · (intro w hSw; (try dsimp only at hSw); go_simp; try with_reducible rfl)
              ((try simp only [Act.put]); (try simp only [List.setIfInBounds_toArray]); (try simp only [List.set_cons_succ]); (try simp only [List.set_cons_zero]))
              refine anyZ_take (i := 11) (oi := { dst := some 81, op := Op.build 80 #[(0, Operand.tmp 79), (1, Operand.tmp 80)], type := 80, pos := "ref.go:237", after := #[{ on := 9, ground := Ground.data }, { on := 10, ground := Ground.data }], guard := none }) (v := ?_) rfl (by kernel_rfl) (by kernel_rfl) (by kernel_rfl) (by kernel_rfl) (fun _ _ _ h => h) (Or.inl ⟨by rfl, ?_⟩) (by assumption) ?_
              rotate_left
              · (intro w hSw; (try dsimp only at hSw); go_simp; try with_reducible rfl)
              ((try simp only [Act.put]); (try simp only [List.setIfInBounds_toArray]); (try simp only [List.set_cons_succ]); (try simp only [List.set_cons_zero]))
              refine anyZ_take (i := 14) (oi := { dst := some 84, op := Op.move (Operand.tmp 0), type := 30, pos := "ref.go:237", after := #[], guard := none }) (v := ?_) rfl (by kernel_rfl) (by kernel_rfl) (by kernel_rfl) (by kernel_rfl) (fun _ _ _ h => h) (Or.inl ⟨by rfl, ?_⟩) (by assumption) ?_
              rotate_left
              · (intro w hSw; (try dsimp only at hSw); go_simp; try with_reducible rfl)
              ((try simp only [Act.put]); (try simp only [List.setIfInBounds_toArray]); (try simp only [List.set_cons_succ]); (try simp only [List.set_cons_zero]))
              refine anyZ_take (i := 15) (oi := { dst := some 85, op := Op.nilCheck (Operand.tmp 84), type := 0, pos := "ref.go:237", after := #[{ on := 14, ground := Ground.data }], guard := none }) (v := ?_) rfl (by kernel_rfl) (by kernel_rfl) (by kernel_rfl) (by kernel_rfl) (fun _ _ _ h => h) (Or.inl ⟨by rfl, ?_⟩) (by assumption) ?_
              rotate_left
              · (intro w hSw; (try dsimp only at hSw); go_simp; try with_reducible rfl)
              ((try simp only [Act.put]); (try simp only [List.setIfInBounds_toArray]); (try simp only [List.set_cons_succ]); (try simp only [List.set_cons_zero]))
              refine anyZ_take (i := 16) (oi := { dst := some 86, op := Op.fieldAddr 57 (Operand.tmp 85) 2, type := 0, pos := "ref.go:237", after := #[{ on := 15, ground := Ground.data }], guard := none }) (v := ?_) rfl (by kernel_rfl) (by kernel_rfl) (by kernel_rfl) (by kernel_rfl) (fun _ _ _ h => h) (Or.inl ⟨by rfl, ?_⟩) (by assumption) ?_
              rotate_left
              · (intro w hSw; (try dsimp only at hSw); go_simp; try with_reducible rfl)
              ((try simp only [Act.put]); (try simp only [List.setIfInBounds_toArray]); (try simp only [List.set_cons_succ]); (try simp only [List.set_cons_zero]))
              refine anyZ_take (i := 17) (oi := { dst := some 87, op := Op.load 39 (Operand.tmp 86), type := 39, pos := "ref.go:237", after := #[{ on := 16, ground := Ground.data }], guard := none }) (v := ?_) rfl (by kernel_rfl) (by kernel_rfl) (by kernel_rfl) (by kernel_rfl) (fun _ _ _ h => h) (Or.inl ⟨by rfl, ?_⟩) (by assumption) ?_
              rotate_left
              · (intro w hSw; (try dsimp only at hSw); go_simp; try with_reducible rfl)
              ((try simp only [Act.put]); (try simp only [List.setIfInBounds_toArray]); (try simp only [List.set_cons_succ]); (try simp only [List.set_cons_zero]))
              refine anyZ_take (i := 18) (oi := { dst := some 88, op := Op.move (Operand.tmp 8), type := 3, pos := "ref.go:237", after := #[], guard := none }) (v := ?_) rfl (by kernel_rfl) (by kernel_rfl) (by kernel_rfl) (by kernel_rfl) (fun _ _ _ h => h) (Or.inl ⟨by rfl, ?_⟩) (by assumption) ?_
              rotate_left
              · (intro w hSw; (try dsimp only at hSw); go_simp; try with_reducible rfl)
              ((try simp only [Act.put]); (try simp only [List.setIfInBounds_toArray]); (try simp only [List.set_cons_succ]); (try simp only [List.set_cons_zero]))
              refine anyZ_take (i := 19) (oi := { dst := some 89, op := Op.slice 39 (Operand.tmp 87) (some (Operand.tmp 88)) none none, type := 39, pos := "ref.go:237", after := #[{ on := 17, ground := Ground.data }, { on := 18, ground := Ground.data }], guard := none }) (v := ?_) rfl (by kernel_rfl) (by kernel_rfl) (by kernel_rfl) (by kernel_rfl) (fun _ _ _ h => h) (Or.inl ⟨by rfl, ?_⟩) (by assumption) ?_
              rotate_left
              · (intro w hSw; (try dsimp only at hSw); go_simp; try with_reducible rfl)
              ((try simp only [Act.put]); (try simp only [List.setIfInBounds_toArray]); (try simp only [List.set_cons_succ]); (try simp only [List.set_cons_zero]))
              refine anyZ_ready (rs := [1, 12]) (by kernel_rfl) (by simp) ?_
              refine AllZ.cons (o := { dst := some 71, op := Op.buildSlice 39 0 #[], type := 39, pos := "ref.go:237", after := #[], guard := none }) rfl (fun K hK => ?_) (AllZ.cons (o := { dst := some 82, op := Op.buildSlice 39 1 #[(0, Operand.tmp 81)], type := 39, pos := "ref.go:237", after := #[{ on := 11, ground := Ground.data }], guard := none }) rfl (fun K hK => ?_) AllZ.nil)
              · skip
                go_simp
                refine hK.out _ _ ?_ (fun hNew => ?_)
                · first | exact hHeld | exact ⟨cell_go hHeld.1 ((Below.refl _ _).alloc (Nat.le_refl _) _), Lib.hid ((Hid.out hHeld.2).alloc (Hid.out hHeld.2).size _)⟩ | exact ⟨cell_go HC.out B4.out, B4⟩ | exact ⟨cell_go HC.out B3.out, B3⟩ | exact ⟨cell_go HC.out B2.out, B2⟩
                clear hK K
                replace hHeld := hNew
                clear hNew
                ((try simp only [Act.put]); (try simp only [List.setIfInBounds_toArray]); (try simp only [List.set_cons_succ]); (try simp only [List.set_cons_zero]))
                refine anyZ_ready (rs := [8, 12]) (by kernel_rfl) (by simp) ?_
                refine AllZ.cons (o := { dst := some 78, op := Op.call { callee := Callee.builtin Builtin.append, args := #[Operand.tmp 71, Operand.tmp 77], argTypes := #[39, 39] }, type := 39, pos := "ref.go:237", after := #[{ on := 1, ground := Ground.data }, { on := 7, ground := Ground.data }], guard := none }) rfl (fun K hK => ?_) (AllZ.cons (o := { dst := some 82, op := Op.buildSlice 39 1 #[(0, Operand.tmp 81)], type := 39, pos := "ref.go:237", after := #[{ on := 11, ground := Ground.data }], guard := none }) rfl (fun K hK => ?_) AllZ.nil)
                · skip
                  refine step_append_at rfl (.tmp 71) (.tmp 77) 39 rfl wc.heap.size 80 i0 _ 2 24 Tryz.underlying39 hi0 hz0 hz1 hz2 rfl (by decide) _ _ _ (by first | (simp [Act.eval]; done) | (simp [Act.eval, Act.put]; done)) OA.out ao k co csA (by first | (simp [Act.eval]; done) | (simp [Act.eval, Act.put]; done)) LA.out (SA.out.below (Hid.out hHeld.2)).empty (SA.out.below (Hid.out hHeld.2)).news NA.out (by unfold maxLen; omega) (by omega) (Hid.out hHeld.2).size ?_
                  intro a2 cap2 w2 hown2 hgr hat2
                  have B2 := Lib.hid ((Hid.out hHeld.2).grown hgr (Hid.out hHeld.2).size (fun k h => (OA.out.lt k h).1))
                  have O2 := Lib.hid (show w2.ownsRow wc.heap.size 80 2 (.slice a2 (0 + k) cap2) k csA by rw [Nat.zero_add, List.nil_append] at hown2; rw [Nat.zero_add]; exact hown2)
                  have L2 := Lib.hid (lit2_row w2 (.int .u64 (num : Int)) (.string s) #[.int .u64 (num : Int), .string s] 80 rfl)
                  have O3 := Lib.hid (own_below O2.out ((Below.refl _ w2).alloc (Nat.le_refl _) (.cells #[.int .u64 (num : Int), .string s] 80)))
                  clear hown2 hgr hat2
                  refine hK.out _ _ ?_ (fun hNew => ?_)
                  · first | exact hHeld | exact ⟨cell_go hHeld.1 ((Below.refl _ _).alloc (Nat.le_refl _) _), Lib.hid ((Hid.out hHeld.2).alloc (Hid.out hHeld.2).size _)⟩ | exact ⟨cell_go HC.out B4.out, B4⟩ | exact ⟨cell_go HC.out B3.out, B3⟩ | exact ⟨cell_go HC.out B2.out, B2⟩
                  clear hK K
                  replace hHeld := hNew
                  clear hNew
                  ((try simp only [Act.put]); (try simp only [List.setIfInBounds_toArray]); (try simp only [List.set_cons_succ]); (try simp only [List.set_cons_zero]))
                  refine anyZ_ready (rs := [12]) (by kernel_rfl) (by simp) ?_
                  refine AllZ.cons (o := { dst := some 82, op := Op.buildSlice 39 1 #[(0, Operand.tmp 81)], type := 39, pos := "ref.go:237", after := #[{ on := 11, ground := Ground.data }], guard := none }) rfl (fun K hK => ?_) AllZ.nil
                  go_simp
                  refine hK.out _ _ ?_ (fun hNew => ?_)
                  · first | exact hHeld | exact ⟨cell_go hHeld.1 ((Below.refl _ _).alloc (Nat.le_refl _) _), Lib.hid ((Hid.out hHeld.2).alloc (Hid.out hHeld.2).size _)⟩ | exact ⟨cell_go HC.out B4.out, B4⟩ | exact ⟨cell_go HC.out B3.out, B3⟩ | exact ⟨cell_go HC.out B2.out, B2⟩
                  clear hK K
                  replace hHeld := hNew
                  clear hNew
                  ((try simp only [Act.put]); (try simp only [List.setIfInBounds_toArray]); (try simp only [List.set_cons_succ]); (try simp only [List.set_cons_zero]))
                  refine anyZ_ready (rs := [13]) (by kernel_rfl) (by simp) ?_
                  refine AllZ.cons (o := { dst := some 83, op := Op.call { callee := Callee.builtin Builtin.append, args := #[Operand.tmp 78, Operand.tmp 82], argTypes := #[39, 39] }, type := 39, pos := "ref.go:237", after := #[{ on := 8, ground := Ground.data }, { on := 12, ground := Ground.data }, { on := 8, ground := Ground.chain }], guard := none }) rfl (fun K hK => ?_) AllZ.nil
                  refine step_append_at rfl (.tmp 78) (.tmp 82) 39 rfl wc.heap.size 80 i0 _ 2 24 Tryz.underlying39 hi0 hz0 hz1 hz2 rfl (by decide) _ _ _ (by first | (simp [Act.eval]; done) | (simp [Act.eval, Act.put]; done)) O3.out _ 1 1 [.int .u64 (num : Int), .string s] (by first | (simp [Act.eval]; done) | (simp [Act.eval, Act.put]; done)) (by simp) (fun e => by cases e) L2.out.news (by simp [Value.oneCell']) (by unfold maxLen; omega) (by omega) (Hid.out hHeld.2).size ?_
                  intro a3 cap3 w3 hown3 hgr hat3
                  have B3 := Lib.hid ((Hid.out hHeld.2).grown hgr (Hid.out hHeld.2).size (fun k h => (O3.out.lt k h).1))
                  have O4 := Lib.hid hown3
                  clear hown3 hgr hat3
                  refine hK.out _ _ ?_ (fun hNew => ?_)
                  · first | exact hHeld | exact ⟨cell_go hHeld.1 ((Below.refl _ _).alloc (Nat.le_refl _) _), Lib.hid ((Hid.out hHeld.2).alloc (Hid.out hHeld.2).size _)⟩ | exact ⟨cell_go HC.out B4.out, B4⟩ | exact ⟨cell_go HC.out B3.out, B3⟩ | exact ⟨cell_go HC.out B2.out, B2⟩
                  clear hK K
                  replace hHeld := hNew
                  clear hNew
                  ((try simp only [Act.put]); (try simp only [List.setIfInBounds_toArray]); (try simp only [List.set_cons_succ]); (try simp only [List.set_cons_zero]))
                  refine anyZ_ready (rs := [20]) (by kernel_rfl) (by simp) ?_
                  refine AllZ.cons (o := { dst := some 90, op := Op.call { callee := Callee.builtin Builtin.append, args := #[Operand.tmp 83, Operand.tmp 89], argTypes := #[39, 39] }, type := 39, pos := "ref.go:237", after := #[{ on := 13, ground := Ground.data }, { on := 19, ground := Ground.data }, { on := 13, ground := Ground.chain }], guard := none }) rfl (fun K hK => ?_) AllZ.nil
                  refine step_append_at rfl (.tmp 83) (.tmp 89) 39 rfl wc.heap.size 80 i0 _ 2 24 Tryz.underlying39 hi0 hz0 hz1 hz2 rfl (by decide) _ _ _ (by first | (simp [Act.eval]; done) | (simp [Act.eval, Act.put]; done)) O4.out (if co = k then ao else Option.map (fun x => x.add (k * 2)) ao) (n - k) (co - k) csD (by first | (simp [Act.eval]; done) | (simp [Act.eval, Act.put]; done)) LD.out (SD.out.below (Hid.out hHeld.2)).empty (SD.out.below (Hid.out hHeld.2)).news ND.out (by unfold maxLen; omega) (by omega) (Hid.out hHeld.2).size ?_
                  intro a4 cap4 w4 hown4 hgr hat4
                  have B4 := Lib.hid ((Hid.out hHeld.2).grown hgr (Hid.out hHeld.2).size (fun k h => (O4.out.lt k h).1))
                  have f4 : w4.frozen? ⟨r, 2, none⟩ = false := (World.frozen?_of_block (a := ⟨r, 2, none⟩) (B4.out.block r hrW)).trans (R1.out.c.fz 2)
                  have R := Lib.hid (fun w5 h5 => rd_put (w5 := w5) (a4 := a4) (cap4 := cap4) R1.out B4.out (fun i hi => HZ.out i (Nat.le_trans KW.out.size hi)) ML.out (by rw [← LL.out]; exact hown4) h5)
                  clear hown4 hgr hat4
                  refine hK.out _ _ ?_ (fun hNew => ?_)
                  · first | exact hHeld | exact ⟨cell_go hHeld.1 ((Below.refl _ _).alloc (Nat.le_refl _) _), Lib.hid ((Hid.out hHeld.2).alloc (Hid.out hHeld.2).size _)⟩ | exact ⟨cell_go HC.out B4.out, B4⟩ | exact ⟨cell_go HC.out B3.out, B3⟩ | exact ⟨cell_go HC.out B2.out, B2⟩
                  clear hK K
                  replace hHeld := hNew
                  clear hNew
                  ((try simp only [Act.put]); (try simp only [List.setIfInBounds_toArray]); (try simp only [List.set_cons_succ]); (try simp only [List.set_cons_zero]))
                  refine anyZ_ready (rs := [21]) (by kernel_rfl) (by simp) ?_
                  refine AllZ.cons (o := { dst := some 91, op := Op.nilCheck (Operand.tmp 70), type := 0, pos := "ref.go:237", after := #[{ on := 0, ground := Ground.data }, { on := 0, ground := Ground.phase }, { on := 1, ground := Ground.phase }, { on := 2, ground := Ground.phase }, { on := 3, ground := Ground.phase }, { on := 4, ground := Ground.phase }, { on := 5, ground := Ground.phase }, { on := 6, ground := Ground.phase }, { on := 7, ground := Ground.phase }, { on := 8, ground := Ground.phase }, { on := 9, ground := Ground.phase }, { on := 10, ground := Ground.phase }, { on := 11, ground := Ground.phase }, { on := 12, ground := Ground.phase }, { on := 13, ground := Ground.phase }, { on := 14, ground := Ground.phase }, { on := 15, ground := Ground.phase }, { on := 16, ground := Ground.phase }, { on := 17, ground := Ground.phase }, { on := 18, ground := Ground.phase }, { on := 19, ground := Ground.phase }, { on := 20, ground := Ground.phase }], guard := none }) rfl (fun K hK => ?_) AllZ.nil
                  go_simp
                  refine hK.out _ _ ?_ (fun hNew => ?_)
                  · first | exact hHeld | exact ⟨cell_go hHeld.1 ((Below.refl _ _).alloc (Nat.le_refl _) _), Lib.hid ((Hid.out hHeld.2).alloc (Hid.out hHeld.2).size _)⟩ | exact ⟨cell_go HC.out B4.out, B4⟩ | exact ⟨cell_go HC.out B3.out, B3⟩ | exact ⟨cell_go HC.out B2.out, B2⟩
                  clear hK K
                  replace hHeld := hNew
                  clear hNew
                  ((try simp only [Act.put]); (try simp only [List.setIfInBounds_toArray]); (try simp only [List.set_cons_succ]); (try simp only [List.set_cons_zero]))
                  refine anyZ_take (i := 22) (oi := { dst := some 92, op := Op.fieldAddr 57 (Operand.tmp 91) 2, type := 0, pos := "ref.go:237", after := #[{ on := 21, ground := Ground.data }, { on := 0, ground := Ground.phase }, { on := 1, ground := Ground.phase }, { on := 2, ground := Ground.phase }, { on := 3, ground := Ground.phase }, { on := 4, ground := Ground.phase }, { on := 5, ground := Ground.phase }, { on := 6, ground := Ground.phase }, { on := 7, ground := Ground.phase }, { on := 8, ground := Ground.phase }, { on := 9, ground := Ground.phase }, { on := 10, ground := Ground.phase }, { on := 11, ground := Ground.phase }, { on := 12, ground := Ground.phase }, { on := 13, ground := Ground.phase }, { on := 14, ground := Ground.phase }, { on := 15, ground := Ground.phase }, { on := 16, ground := Ground.phase }, { on := 17, ground := Ground.phase }, { on := 18, ground := Ground.phase }, { on := 19, ground := Ground.phase }, { on := 20, ground := Ground.phase }], guard := none }) (v := ?_) rfl (by kernel_rfl) (by kernel_rfl) (by kernel_rfl) (by kernel_rfl) (fun _ _ _ h => h) (Or.inl ⟨by rfl, ?_⟩) (by assumption) ?_
                  rotate_left
                  · (intro w hSw; (try dsimp only at hSw); go_simp; try with_reducible rfl)
                  ((try simp only [Act.put]); (try simp only [List.setIfInBounds_toArray]); (try simp only [List.set_cons_succ]); (try simp only [List.set_cons_zero]))
                  refine anyZ_ready (rs := [23]) (by kernel_rfl) (by simp) ?_
                  refine AllZ.last (o := { dst := none, op := Op.store 39 (Operand.tmp 92) (Operand.tmp 90), type := 0, pos := "ref.go:237", after := #[{ on := 22, ground := Ground.data }, { on := 20, ground := Ground.data }, { on := 20, ground := Ground.chain }, { on := 0, ground := Ground.phase }, { on := 1, ground := Ground.phase }, { on := 2, ground := Ground.phase }, { on := 3, ground := Ground.phase }, { on := 4, ground := Ground.phase }, { on := 5, ground := Ground.phase }, { on := 6, ground := Ground.phase }, { on := 7, ground := Ground.phase }, { on := 8, ground := Ground.phase }, { on := 9, ground := Ground.phase }, { on := 10, ground := Ground.phase }, { on := 11, ground := Ground.phase }, { on := 12, ground := Ground.phase }, { on := 13, ground := Ground.phase }, { on := 14, ground := Ground.phase }, { on := 15, ground := Ground.phase }, { on := 16, ground := Ground.phase }, { on := 17, ground := Ground.phase }, { on := 18, ground := Ground.phase }, { on := 19, ground := Ground.phase }, { on := 20, ground := Ground.phase }], guard := none }) rfl (fun K hK => ?_)
                  go_simp
                  refine hK.out _ _ ?_
                  clear hK K
                  ((try simp only [Act.put]); (try simp only [List.setIfInBounds_toArray]); (try simp only [List.set_cons_succ]); (try simp only [List.set_cons_zero]))
                  refine anyZ_done (by kernel_rfl) ?_ _
                  refine NoPanic.normal ?_
                  go_wp2_with fail
                  all_goals go_meet
                  all_goals exact (R.out _ ⟨rfl, rfl, rfl, rfl⟩).elim (fun ⟨a5, c5, h5⟩ kk => ⟨a5, c5, h5, KW.out.trans kk (fun _ _ h => h)⟩)
                · skip
                  go_simp
                  refine hK.out _ _ ?_ (fun hNew => ?_)
                  · first | exact hHeld | exact ⟨cell_go hHeld.1 ((Below.refl _ _).alloc (Nat.le_refl _) _), Lib.hid ((Hid.out hHeld.2).alloc (Hid.out hHeld.2).size _)⟩ | exact ⟨cell_go HC.out B4.out, B4⟩ | exact ⟨cell_go HC.out B3.out, B3⟩ | exact ⟨cell_go HC.out B2.out, B2⟩
                  clear hK K
                  replace hHeld := hNew
                  clear hNew
                  ((try simp only [Act.put]); (try simp only [List.setIfInBounds_toArray]); (try simp only [List.set_cons_succ]); (try simp only [List.set_cons_zero]))
                  refine anyZ_ready (rs := [8]) (by kernel_rfl) (by simp) ?_
                  refine AllZ.cons (o := { dst := some 78, op := Op.call { callee := Callee.builtin Builtin.append, args := #[Operand.tmp 71, Operand.tmp 77], argTypes := #[39, 39] }, type := 39, pos := "ref.go:237", after := #[{ on := 1, ground := Ground.data }, { on := 7, ground := Ground.data }], guard := none }) rfl (fun K hK => ?_) AllZ.nil
                  refine step_append_at rfl (.tmp 71) (.tmp 77) 39 rfl wc.heap.size 80 i0 _ 2 24 Tryz.underlying39 hi0 hz0 hz1 hz2 rfl (by decide) _ _ _ (by first | (simp [Act.eval]; done) | (simp [Act.eval, Act.put]; done)) OB.out ao k co csA (by first | (simp [Act.eval]; done) | (simp [Act.eval, Act.put]; done)) LA.out (SA.out.below (Hid.out hHeld.2)).empty (SA.out.below (Hid.out hHeld.2)).news NA.out (by unfold maxLen; omega) (by omega) (Hid.out hHeld.2).size ?_
                  intro a2 cap2 w2 hown2 hgr hat2
                  have B2 := Lib.hid ((Hid.out hHeld.2).grown hgr (Hid.out hHeld.2).size (fun k h => (OB.out.lt k h).1))
                  have O2 := Lib.hid (show w2.ownsRow wc.heap.size 80 2 (.slice a2 (0 + k) cap2) k csA by rw [Nat.zero_add, List.nil_append] at hown2; rw [Nat.zero_add]; exact hown2)
                  have L2 := Lib.hid (show RowV (fun _ => True) w2 _ 1 1 2 [.int .u64 (num : Int), .string s] from ((LB.out).carry hgr.size (fun k hl hk => hgr.block k hl (fun e2 => by subst hk; simp [Value.ownBlock] at e2))).mono (fun _ _ _ => trivial))
                  clear hown2 hgr hat2
                  refine hK.out _ _ ?_ (fun hNew => ?_)
                  · first | exact hHeld | exact ⟨cell_go hHeld.1 ((Below.refl _ _).alloc (Nat.le_refl _) _), Lib.hid ((Hid.out hHeld.2).alloc (Hid.out hHeld.2).size _)⟩ | exact ⟨cell_go HC.out B4.out, B4⟩ | exact ⟨cell_go HC.out B3.out, B3⟩ | exact ⟨cell_go HC.out B2.out, B2⟩
                  clear hK K
                  replace hHeld := hNew
                  clear hNew
                  ((try simp only [Act.put]); (try simp only [List.setIfInBounds_toArray]); (try simp only [List.set_cons_succ]); (try simp only [List.set_cons_zero]))
                  refine anyZ_ready (rs := [13]) (by kernel_rfl) (by simp) ?_
                  refine AllZ.cons (o := { dst := some 83, op := Op.call { callee := Callee.builtin Builtin.append, args := #[Operand.tmp 78, Operand.tmp 82], argTypes := #[39, 39] }, type := 39, pos := "ref.go:237", after := #[{ on := 8, ground := Ground.data }, { on := 12, ground := Ground.data }, { on := 8, ground := Ground.chain }], guard := none }) rfl (fun K hK => ?_) AllZ.nil
                  refine step_append_at rfl (.tmp 78) (.tmp 82) 39 rfl wc.heap.size 80 i0 _ 2 24 Tryz.underlying39 hi0 hz0 hz1 hz2 rfl (by decide) _ _ _ (by first | (simp [Act.eval]; done) | (simp [Act.eval, Act.put]; done)) O2.out _ 1 1 [.int .u64 (num : Int), .string s] (by first | (simp [Act.eval]; done) | (simp [Act.eval, Act.put]; done)) (by simp) (fun e => by cases e) L2.out.news (by simp [Value.oneCell']) (by unfold maxLen; omega) (by omega) (Hid.out hHeld.2).size ?_
                  intro a3 cap3 w3 hown3 hgr hat3
                  have B3 := Lib.hid ((Hid.out hHeld.2).grown hgr (Hid.out hHeld.2).size (fun k h => (O2.out.lt k h).1))
                  have O4 := Lib.hid hown3
                  clear hown3 hgr hat3
                  refine hK.out _ _ ?_ (fun hNew => ?_)
                  · first | exact hHeld | exact ⟨cell_go hHeld.1 ((Below.refl _ _).alloc (Nat.le_refl _) _), Lib.hid ((Hid.out hHeld.2).alloc (Hid.out hHeld.2).size _)⟩ | exact ⟨cell_go HC.out B4.out, B4⟩ | exact ⟨cell_go HC.out B3.out, B3⟩ | exact ⟨cell_go HC.out B2.out, B2⟩
                  clear hK K
                  replace hHeld := hNew
                  clear hNew
                  ((try simp only [Act.put]); (try simp only [List.setIfInBounds_toArray]); (try simp only [List.set_cons_succ]); (try simp only [List.set_cons_zero]))
                  refine anyZ_ready (rs := [20]) (by kernel_rfl) (by simp) ?_
                  refine AllZ.cons (o := { dst := some 90, op := Op.call { callee := Callee.builtin Builtin.append, args := #[Operand.tmp 83, Operand.tmp 89], argTypes := #[39, 39] }, type := 39, pos := "ref.go:237", after := #[{ on := 13, ground := Ground.data }, { on := 19, ground := Ground.data }, { on := 13, ground := Ground.chain }], guard := none }) rfl (fun K hK => ?_) AllZ.nil
                  refine step_append_at rfl (.tmp 83) (.tmp 89) 39 rfl wc.heap.size 80 i0 _ 2 24 Tryz.underlying39 hi0 hz0 hz1 hz2 rfl (by decide) _ _ _ (by first | (simp [Act.eval]; done) | (simp [Act.eval, Act.put]; done)) O4.out (if co = k then ao else Option.map (fun x => x.add (k * 2)) ao) (n - k) (co - k) csD (by first | (simp [Act.eval]; done) | (simp [Act.eval, Act.put]; done)) LD.out (SD.out.below (Hid.out hHeld.2)).empty (SD.out.below (Hid.out hHeld.2)).news ND.out (by unfold maxLen; omega) (by omega) (Hid.out hHeld.2).size ?_
                  intro a4 cap4 w4 hown4 hgr hat4
                  have B4 := Lib.hid ((Hid.out hHeld.2).grown hgr (Hid.out hHeld.2).size (fun k h => (O4.out.lt k h).1))
                  have f4 : w4.frozen? ⟨r, 2, none⟩ = false := (World.frozen?_of_block (a := ⟨r, 2, none⟩) (B4.out.block r hrW)).trans (R1.out.c.fz 2)
                  have R := Lib.hid (fun w5 h5 => rd_put (w5 := w5) (a4 := a4) (cap4 := cap4) R1.out B4.out (fun i hi => HZ.out i (Nat.le_trans KW.out.size hi)) ML.out (by rw [← LL.out]; exact hown4) h5)
                  clear hown4 hgr hat4
                  refine hK.out _ _ ?_ (fun hNew => ?_)
                  · first | exact hHeld | exact ⟨cell_go hHeld.1 ((Below.refl _ _).alloc (Nat.le_refl _) _), Lib.hid ((Hid.out hHeld.2).alloc (Hid.out hHeld.2).size _)⟩ | exact ⟨cell_go HC.out B4.out, B4⟩ | exact ⟨cell_go HC.out B3.out, B3⟩ | exact ⟨cell_go HC.out B2.out, B2⟩
                  clear hK K
                  replace hHeld := hNew
                  clear hNew
                  ((try simp only [Act.put]); (try simp only [List.setIfInBounds_toArray]); (try simp only [List.set_cons_succ]); (try simp only [List.set_cons_zero]))
                  refine anyZ_ready (rs := [21]) (by kernel_rfl) (by simp) ?_
                  refine AllZ.cons (o := { dst := some 91, op := Op.nilCheck (Operand.tmp 70), type := 0, pos := "ref.go:237", after := #[{ on := 0, ground := Ground.data }, { on := 0, ground := Ground.phase }, { on := 1, ground := Ground.phase }, { on := 2, ground := Ground.phase }, { on := 3, ground := Ground.phase }, { on := 4, ground := Ground.phase }, { on := 5, ground := Ground.phase }, { on := 6, ground := Ground.phase }, { on := 7, ground := Ground.phase }, { on := 8, ground := Ground.phase }, { on := 9, ground := Ground.phase }, { on := 10, ground := Ground.phase }, { on := 11, ground := Ground.phase }, { on := 12, ground := Ground.phase }, { on := 13, ground := Ground.phase }, { on := 14, ground := Ground.phase }, { on := 15, ground := Ground.phase }, { on := 16, ground := Ground.phase }, { on := 17, ground := Ground.phase }, { on := 18, ground := Ground.phase }, { on := 19, ground := Ground.phase }, { on := 20, ground := Ground.phase }], guard := none }) rfl (fun K hK => ?_) AllZ.nil
                  go_simp
                  refine hK.out _ _ ?_ (fun hNew => ?_)
                  · first | exact hHeld | exact ⟨cell_go hHeld.1 ((Below.refl _ _).alloc (Nat.le_refl _) _), Lib.hid ((Hid.out hHeld.2).alloc (Hid.out hHeld.2).size _)⟩ | exact ⟨cell_go HC.out B4.out, B4⟩ | exact ⟨cell_go HC.out B3.out, B3⟩ | exact ⟨cell_go HC.out B2.out, B2⟩
                  clear hK K
                  replace hHeld := hNew
                  clear hNew
                  ((try simp only [Act.put]); (try simp only [List.setIfInBounds_toArray]); (try simp only [List.set_cons_succ]); (try simp only [List.set_cons_zero]))
                  refine anyZ_take (i := 22) (oi := { dst := some 92, op := Op.fieldAddr 57 (Operand.tmp 91) 2, type := 0, pos := "ref.go:237", after := #[{ on := 21, ground := Ground.data }, { on := 0, ground := Ground.phase }, { on := 1, ground := Ground.phase }, { on := 2, ground := Ground.phase }, { on := 3, ground := Ground.phase }, { on := 4, ground := Ground.phase }, { on := 5, ground := Ground.phase }, { on := 6, ground := Ground.phase }, { on := 7, ground := Ground.phase }, { on := 8, ground := Ground.phase }, { on := 9, ground := Ground.phase }, { on := 10, ground := Ground.phase }, { on := 11, ground := Ground.phase }, { on := 12, ground := Ground.phase }, { on := 13, ground := Ground.phase }, { on := 14, ground := Ground.phase }, { on := 15, ground := Ground.phase }, { on := 16, ground := Ground.phase }, { on := 17, ground := Ground.phase }, { on := 18, ground := Ground.phase }, { on := 19, ground := Ground.phase }, { on := 20, ground := Ground.phase }], guard := none }) (v := ?_) rfl (by kernel_rfl) (by kernel_rfl) (by kernel_rfl) (by kernel_rfl) (fun _ _ _ h => h) (Or.inl ⟨by rfl, ?_⟩) (by assumption) ?_
                  rotate_left
                  · (intro w hSw; (try dsimp only at hSw); go_simp; try with_reducible rfl)
                  ((try simp only [Act.put]); (try simp only [List.setIfInBounds_toArray]); (try simp only [List.set_cons_succ]); (try simp only [List.set_cons_zero]))
                  refine anyZ_ready (rs := [23]) (by kernel_rfl) (by simp) ?_
                  refine AllZ.last (o := { dst := none, op := Op.store 39 (Operand.tmp 92) (Operand.tmp 90), type := 0, pos := "ref.go:237", after := #[{ on := 22, ground := Ground.data }, { on := 20, ground := Ground.data }, { on := 20, ground := Ground.chain }, { on := 0, ground := Ground.phase }, { on := 1, ground := Ground.phase }, { on := 2, ground := Ground.phase }, { on := 3, ground := Ground.phase }, { on := 4, ground := Ground.phase }, { on := 5, ground := Ground.phase }, { on := 6, ground := Ground.phase }, { on := 7, ground := Ground.phase }, { on := 8, ground := Ground.phase }, { on := 9, ground := Ground.phase }, { on := 10, ground := Ground.phase }, { on := 11, ground := Ground.phase }, { on := 12, ground := Ground.phase }, { on := 13, ground := Ground.phase }, { on := 14, ground := Ground.phase }, { on := 15, ground := Ground.phase }, { on := 16, ground := Ground.phase }, { on := 17, ground := Ground.phase }, { on := 18, ground := Ground.phase }, { on := 19, ground := Ground.phase }, { on := 20, ground := Ground.phase }], guard := none }) rfl (fun K hK => ?_)
                  go_simp
                  refine hK.out _ _ ?_
                  clear hK K
                  ((try simp only [Act.put]); (try simp only [List.setIfInBounds_toArray]); (try simp only [List.set_cons_succ]); (try simp only [List.set_cons_zero]))
                  refine anyZ_done (by kernel_rfl) ?_ _
                  refine NoPanic.normal ?_
                  go_wp2_with fail
                  all_goals go_meet
                  all_goals exact (R.out _ ⟨rfl, rfl, rfl, rfl⟩).elim (fun ⟨a5, c5, h5⟩ kk => ⟨a5, c5, h5, KW.out.trans kk (fun _ _ h => h)⟩)
              · skip
                go_simp
                refine hK.out _ _ ?_ (fun hNew => ?_)
                · first | exact hHeld | exact ⟨cell_go hHeld.1 ((Below.refl _ _).alloc (Nat.le_refl _) _), Lib.hid ((Hid.out hHeld.2).alloc (Hid.out hHeld.2).size _)⟩ | exact ⟨cell_go HC.out B4.out, B4⟩ | exact ⟨cell_go HC.out B3.out, B3⟩ | exact ⟨cell_go HC.out B2.out, B2⟩
                clear hK K
                replace hHeld := hNew
                clear hNew
                ((try simp only [Act.put]); (try simp only [List.setIfInBounds_toArray]); (try simp only [List.set_cons_succ]); (try simp only [List.set_cons_zero]))
                refine anyZ_ready (rs := [1]) (by kernel_rfl) (by simp) ?_
                refine AllZ.cons (o := { dst := some 71, op := Op.buildSlice 39 0 #[], type := 39, pos := "ref.go:237", after := #[], guard := none }) rfl (fun K hK => ?_) AllZ.nil
                go_simp
                refine hK.out _ _ ?_ (fun hNew => ?_)
                · first | exact hHeld | exact ⟨cell_go hHeld.1 ((Below.refl _ _).alloc (Nat.le_refl _) _), Lib.hid ((Hid.out hHeld.2).alloc (Hid.out hHeld.2).size _)⟩ | exact ⟨cell_go HC.out B4.out, B4⟩ | exact ⟨cell_go HC.out B3.out, B3⟩ | exact ⟨cell_go HC.out B2.out, B2⟩
                clear hK K
                replace hHeld := hNew
                clear hNew
                ((try simp only [Act.put]); (try simp only [List.setIfInBounds_toArray]); (try simp only [List.set_cons_succ]); (try simp only [List.set_cons_zero]))
                refine anyZ_ready (rs := [8]) (by kernel_rfl) (by simp) ?_
                refine AllZ.cons (o := { dst := some 78, op := Op.call { callee := Callee.builtin Builtin.append, args := #[Operand.tmp 71, Operand.tmp 77], argTypes := #[39, 39] }, type := 39, pos := "ref.go:237", after := #[{ on := 1, ground := Ground.data }, { on := 7, ground := Ground.data }], guard := none }) rfl (fun K hK => ?_) AllZ.nil
                refine step_append_at rfl (.tmp 71) (.tmp 77) 39 rfl wc.heap.size 80 i0 _ 2 24 Tryz.underlying39 hi0 hz0 hz1 hz2 rfl (by decide) _ _ _ (by first | (simp [Act.eval]; done) | (simp [Act.eval, Act.put]; done)) OC.out ao k co csA (by first | (simp [Act.eval]; done) | (simp [Act.eval, Act.put]; done)) LA.out (SA.out.below (Hid.out hHeld.2)).empty (SA.out.below (Hid.out hHeld.2)).news NA.out (by unfold maxLen; omega) (by omega) (Hid.out hHeld.2).size ?_
                intro a2 cap2 w2 hown2 hgr hat2
                have B2 := Lib.hid ((Hid.out hHeld.2).grown hgr (Hid.out hHeld.2).size (fun k h => (OC.out.lt k h).1))
                have O2 := Lib.hid (show w2.ownsRow wc.heap.size 80 2 (.slice a2 (0 + k) cap2) k csA by rw [Nat.zero_add, List.nil_append] at hown2; rw [Nat.zero_add]; exact hown2)
                have L2 := Lib.hid (show RowV (fun _ => True) w2 _ 1 1 2 [.int .u64 (num : Int), .string s] from ((LC.out).carry hgr.size (fun k hl hk => hgr.block k hl (fun e2 => by subst hk; simp [Value.ownBlock] at e2))).mono (fun _ _ _ => trivial))
                clear hown2 hgr hat2
                refine hK.out _ _ ?_ (fun hNew => ?_)
                · first | exact hHeld | exact ⟨cell_go hHeld.1 ((Below.refl _ _).alloc (Nat.le_refl _) _), Lib.hid ((Hid.out hHeld.2).alloc (Hid.out hHeld.2).size _)⟩ | exact ⟨cell_go HC.out B4.out, B4⟩ | exact ⟨cell_go HC.out B3.out, B3⟩ | exact ⟨cell_go HC.out B2.out, B2⟩
                clear hK K
                replace hHeld := hNew
                clear hNew
                ((try simp only [Act.put]); (try simp only [List.setIfInBounds_toArray]); (try simp only [List.set_cons_succ]); (try simp only [List.set_cons_zero]))
                refine anyZ_ready (rs := [13]) (by kernel_rfl) (by simp) ?_
                refine AllZ.cons (o := { dst := some 83, op := Op.call { callee := Callee.builtin Builtin.append, args := #[Operand.tmp 78, Operand.tmp 82], argTypes := #[39, 39] }, type := 39, pos := "ref.go:237", after := #[{ on := 8, ground := Ground.data }, { on := 12, ground := Ground.data }, { on := 8, ground := Ground.chain }], guard := none }) rfl (fun K hK => ?_) AllZ.nil
                refine step_append_at rfl (.tmp 78) (.tmp 82) 39 rfl wc.heap.size 80 i0 _ 2 24 Tryz.underlying39 hi0 hz0 hz1 hz2 rfl (by decide) _ _ _ (by first | (simp [Act.eval]; done) | (simp [Act.eval, Act.put]; done)) O2.out _ 1 1 [.int .u64 (num : Int), .string s] (by first | (simp [Act.eval]; done) | (simp [Act.eval, Act.put]; done)) (by simp) (fun e => by cases e) L2.out.news (by simp [Value.oneCell']) (by unfold maxLen; omega) (by omega) (Hid.out hHeld.2).size ?_
                intro a3 cap3 w3 hown3 hgr hat3
                have B3 := Lib.hid ((Hid.out hHeld.2).grown hgr (Hid.out hHeld.2).size (fun k h => (O2.out.lt k h).1))
                have O4 := Lib.hid hown3
                clear hown3 hgr hat3
                refine hK.out _ _ ?_ (fun hNew => ?_)
                · first | exact hHeld | exact ⟨cell_go hHeld.1 ((Below.refl _ _).alloc (Nat.le_refl _) _), Lib.hid ((Hid.out hHeld.2).alloc (Hid.out hHeld.2).size _)⟩ | exact ⟨cell_go HC.out B4.out, B4⟩ | exact ⟨cell_go HC.out B3.out, B3⟩ | exact ⟨cell_go HC.out B2.out, B2⟩
                clear hK K
                replace hHeld := hNew
                clear hNew
                ((try simp only [Act.put]); (try simp only [List.setIfInBounds_toArray]); (try simp only [List.set_cons_succ]); (try simp only [List.set_cons_zero]))
                refine anyZ_ready (rs := [20]) (by kernel_rfl) (by simp) ?_
                refine AllZ.cons (o := { dst := some 90, op := Op.call { callee := Callee.builtin Builtin.append, args := #[Operand.tmp 83, Operand.tmp 89], argTypes := #[39, 39] }, type := 39, pos := "ref.go:237", after := #[{ on := 13, ground := Ground.data }, { on := 19, ground := Ground.data }, { on := 13, ground := Ground.chain }], guard := none }) rfl (fun K hK => ?_) AllZ.nil
                refine step_append_at rfl (.tmp 83) (.tmp 89) 39 rfl wc.heap.size 80 i0 _ 2 24 Tryz.underlying39 hi0 hz0 hz1 hz2 rfl (by decide) _ _ _ (by first | (simp [Act.eval]; done) | (simp [Act.eval, Act.put]; done)) O4.out (if co = k then ao else Option.map (fun x => x.add (k * 2)) ao) (n - k) (co - k) csD (by first | (simp [Act.eval]; done) | (simp [Act.eval, Act.put]; done)) LD.out (SD.out.below (Hid.out hHeld.2)).empty (SD.out.below (Hid.out hHeld.2)).news ND.out (by unfold maxLen; omega) (by omega) (Hid.out hHeld.2).size ?_
                intro a4 cap4 w4 hown4 hgr hat4
                have B4 := Lib.hid ((Hid.out hHeld.2).grown hgr (Hid.out hHeld.2).size (fun k h => (O4.out.lt k h).1))
                have f4 : w4.frozen? ⟨r, 2, none⟩ = false := (World.frozen?_of_block (a := ⟨r, 2, none⟩) (B4.out.block r hrW)).trans (R1.out.c.fz 2)
                have R := Lib.hid (fun w5 h5 => rd_put (w5 := w5) (a4 := a4) (cap4 := cap4) R1.out B4.out (fun i hi => HZ.out i (Nat.le_trans KW.out.size hi)) ML.out (by rw [← LL.out]; exact hown4) h5)
                clear hown4 hgr hat4
                refine hK.out _ _ ?_ (fun hNew => ?_)
                · first | exact hHeld | exact ⟨cell_go hHeld.1 ((Below.refl _ _).alloc (Nat.le_refl _) _), Lib.hid ((Hid.out hHeld.2).alloc (Hid.out hHeld.2).size _)⟩ | exact ⟨cell_go HC.out B4.out, B4⟩ | exact ⟨cell_go HC.out B3.out, B3⟩ | exact ⟨cell_go HC.out B2.out, B2⟩
                clear hK K
                replace hHeld := hNew
                clear hNew
                ((try simp only [Act.put]); (try simp only [List.setIfInBounds_toArray]); (try simp only [List.set_cons_succ]); (try simp only [List.set_cons_zero]))
                refine anyZ_ready (rs := [21]) (by kernel_rfl) (by simp) ?_
                refine AllZ.cons (o := { dst := some 91, op := Op.nilCheck (Operand.tmp 70), type := 0, pos := "ref.go:237", after := #[{ on := 0, ground := Ground.data }, { on := 0, ground := Ground.phase }, { on := 1, ground := Ground.phase }, { on := 2, ground := Ground.phase }, { on := 3, ground := Ground.phase }, { on := 4, ground := Ground.phase }, { on := 5, ground := Ground.phase }, { on := 6, ground := Ground.phase }, { on := 7, ground := Ground.phase }, { on := 8, ground := Ground.phase }, { on := 9, ground := Ground.phase }, { on := 10, ground := Ground.phase }, { on := 11, ground := Ground.phase }, { on := 12, ground := Ground.phase }, { on := 13, ground := Ground.phase }, { on := 14, ground := Ground.phase }, { on := 15, ground := Ground.phase }, { on := 16, ground := Ground.phase }, { on := 17, ground := Ground.phase }, { on := 18, ground := Ground.phase }, { on := 19, ground := Ground.phase }, { on := 20, ground := Ground.phase }], guard := none }) rfl (fun K hK => ?_) AllZ.nil
                go_simp
                refine hK.out _ _ ?_ (fun hNew => ?_)
                · first | exact hHeld | exact ⟨cell_go hHeld.1 ((Below.refl _ _).alloc (Nat.le_refl _) _), Lib.hid ((Hid.out hHeld.2).alloc (Hid.out hHeld.2).size _)⟩ | exact ⟨cell_go HC.out B4.out, B4⟩ | exact ⟨cell_go HC.out B3.out, B3⟩ | exact ⟨cell_go HC.out B2.out, B2⟩
                clear hK K
                replace hHeld := hNew
                clear hNew
                ((try simp only [Act.put]); (try simp only [List.setIfInBounds_toArray]); (try simp only [List.set_cons_succ]); (try simp only [List.set_cons_zero]))
                refine anyZ_take (i := 22) (oi := { dst := some 92, op := Op.fieldAddr 57 (Operand.tmp 91) 2, type := 0, pos := "ref.go:237", after := #[{ on := 21, ground := Ground.data }, { on := 0, ground := Ground.phase }, { on := 1, ground := Ground.phase }, { on := 2, ground := Ground.phase }, { on := 3, ground := Ground.phase }, { on := 4, ground := Ground.phase }, { on := 5, ground := Ground.phase }, { on := 6, ground := Ground.phase }, { on := 7, ground := Ground.phase }, { on := 8, ground := Ground.phase }, { on := 9, ground := Ground.phase }, { on := 10, ground := Ground.phase }, { on := 11, ground := Ground.phase }, { on := 12, ground := Ground.phase }, { on := 13, ground := Ground.phase }, { on := 14, ground := Ground.phase }, { on := 15, ground := Ground.phase }, { on := 16, ground := Ground.phase }, { on := 17, ground := Ground.phase }, { on := 18, ground := Ground.phase }, { on := 19, ground := Ground.phase }, { on := 20, ground := Ground.phase }], guard := none }) (v := ?_) rfl (by kernel_rfl) (by kernel_rfl) (by kernel_rfl) (by kernel_rfl) (fun _ _ _ h => h) (Or.inl ⟨by rfl, ?_⟩) (by assumption) ?_
                rotate_left
                · (intro w hSw; (try dsimp only at hSw); go_simp; try with_reducible rfl)
                ((try simp only [Act.put]); (try simp only [List.setIfInBounds_toArray]); (try simp only [List.set_cons_succ]); (try simp only [List.set_cons_zero]))
                refine anyZ_ready (rs := [23]) (by kernel_rfl) (by simp) ?_
                refine AllZ.last (o := { dst := none, op := Op.store 39 (Operand.tmp 92) (Operand.tmp 90), type := 0, pos := "ref.go:237", after := #[{ on := 22, ground := Ground.data }, { on := 20, ground := Ground.data }, { on := 20, ground := Ground.chain }, { on := 0, ground := Ground.phase }, { on := 1, ground := Ground.phase }, { on := 2, ground := Ground.phase }, { on := 3, ground := Ground.phase }, { on := 4, ground := Ground.phase }, { on := 5, ground := Ground.phase }, { on := 6, ground := Ground.phase }, { on := 7, ground := Ground.phase }, { on := 8, ground := Ground.phase }, { on := 9, ground := Ground.phase }, { on := 10, ground := Ground.phase }, { on := 11, ground := Ground.phase }, { on := 12, ground := Ground.phase }, { on := 13, ground := Ground.phase }, { on := 14, ground := Ground.phase }, { on := 15, ground := Ground.phase }, { on := 16, ground := Ground.phase }, { on := 17, ground := Ground.phase }, { on := 18, ground := Ground.phase }, { on := 19, ground := Ground.phase }, { on := 20, ground := Ground.phase }], guard := none }) rfl (fun K hK => ?_)
                go_simp
                refine hK.out _ _ ?_
                clear hK K
                ((try simp only [Act.put]); (try simp only [List.setIfInBounds_toArray]); (try simp only [List.set_cons_succ]); (try simp only [List.set_cons_zero]))
                refine anyZ_done (by kernel_rfl) ?_ _
                refine NoPanic.normal ?_
                go_wp2_with fail
                all_goals go_meet
                all_goals exact (R.out _ ⟨rfl, rfl, rfl, rfl⟩).elim (fun ⟨a5, c5, h5⟩ kk => ⟨a5, c5, h5, KW.out.trans kk (fun _ _ h => h)⟩)
            case rest =>
              obtain ⟨a2, cap2, hR2, hK2⟩ := hcut
              have R2 := Lib.hid hR2
              have K2 := Lib.hid hK2
              have hMN := hR2.size
              have hWN := hK2.size
              obtain ⟨N1, hN1⟩ : ∃ N1, N1 = wc.heap.size := ⟨_, rfl⟩
              rw [← hN1] at hMN hWN
              have R3 := Lib.hid (show DrV (fun k => (M ≤ k ∧ Z k) ∧ k < N1) wc r M S.win S.next a2 cap2 (ins num s S.held) from ⟨hR2.c, hR2.rM, hR2.size, hR2.row.mono (fun k hk h => ⟨h, by rw [hN1]; exact hk⟩)⟩)
              obtain ⟨L0, hL0⟩ : ∃ L0, L0 = ins num s S.held := ⟨_, rfl⟩
              rw [← hL0] at R3 UU
              have EL := Lib.hid hL0
              have hl16 : L0.length ≤ 16 := by rw [hL0, ins_len]; have := HS.out.len.1; omega
              obtain ⟨i1, hi1, hy0, hy1, hy2⟩ := info_g Tryz.infoSs
              have hN1' : N1 ≤ wc.heap.size := by omega
              clear hR2 hK2 R2 R1 c0 c1 c2 hU0 HI hL0
              go_wp2_with fail
              go_loopw [9] (fun v wx => RgRel Z W r M S.win S.next (S.next + S.win) N1 L0 v wx ∧ N1 ≤ wx.heap.size) (fun _ wx => (S.next + S.win) - (match wx.cell? ⟨r, 1, none⟩ with | some v => (intOf v).toNat | none => 0))
              case atStart => exact ⟨⟨S.next, L0, [], a2, cap2, World.ownsRow_nil .., R3.out, UU.out, by omega, by simp, rfl, K2.out⟩, hN1'⟩
              case round =>
                obtain ⟨⟨n2, L2, ss, a3, cap3, hO, hR, hU, hnh, hg, hn2, hK⟩, hNw⟩ := hrel
                obtain ⟨x0, x1, x2⟩ := hR.cells
                obtain ⟨av, cv, rfl⟩ := own_form hO
                have BK : ∀ k, Below wr.heap.size wr (wr.drewN k) := fun k => ⟨rfl, rfl, rfl, Nat.le_refl _, fun _ _ => rfl⟩
                have hlen : ss.length + L2.length ≤ 16 := by
                  have h1 := congrArg (fun z : List ByteArray × List (Nat × ByteArray) => z.1.length + z.2.length) hg
                  simp only [List.length_append] at h1
                  have h2 := (goN_up UU.out (by omega)).2.2
                  have h3 := (goN_up hU hnh).2.2
                  omega
                have DN := Lib.hid (fun (k : Nat) (hz : goN n2 L2 = ([], L2)) => rg_done (v := .slice av ss.length cv) HM.out EL.out rfl rfl (own_below hO (BK k)) (hR.drewN k) hg hn2 (hK.drewN k) hz)
                have O := Lib.hid hO
                have R := Lib.hid hR
                have U := Lib.hid hU
                have G := Lib.hid hg
                have K := Lib.hid hK
                have E2 := Lib.hid hn2
                have ML := R.out.row.max
                unfold maxLen at ML
                have hnb : n2 ≤ 1000000 := by have := HS.out.next; omega
                cases L2 with
                | nil =>
                  have DN2 := Lib.hid (fun k => DN.out k rfl)
                  clear hO hR hU hg hK hn2 DN
                  go_wp2_with fail
                  go_quiet (fail)
                  go_wp2_with fail
                  go_ret2
                  exact DN2.out _
                | cons x t =>
                  obtain ⟨b, off, rfl, hb, hbA, k0⟩ := R.out.row.cell 0 (uN x.1) rfl
                  obtain ⟨b', off', e', hb', -, k1⟩ := R.out.row.cell 1 (.string x.2) rfl
                  cases e'
                  unfold uN at k0
                  rw [Nat.add_zero] at k0
                  obtain ⟨tl, htl⟩ : ∃ tl, tl = t.length := ⟨_, rfl⟩
                  have TL := Lib.hid htl
                  have hfit3 := R.out.row.fit
                  rw [List.length_cons, ← htl] at x2 hfit3
                  rw [List.length_cons] at hlen
                  have g0 : decide (((tl + 1 : Nat) : Int) > 0) = true := decide_eq_true (by omega)
                  by_cases hx : x.1 = n2
                  · obtain ⟨xn, xb⟩ := x
                    simp only at hx
                    subst hx
                    have hlt : xn < S.next + S.win := (U.out.2 (xn, xb) (List.mem_cons_self ..)).2
                    obtain ⟨A, hA⟩ : ∃ A : Option Addr, (if cap3 = 1 then (some ⟨b, off, none⟩ : Option Addr) else some ⟨b, off + 2, none⟩) = A := ⟨_, rfl⟩
                    have HA := Lib.hid (show (if cap3 = 1 then (some ⟨b, off, none⟩ : Option Addr) else (some (⟨b, off, none⟩ : Addr)).map (·.add (1 * 2))) = A by rw [← hA]; simp [Addr.add_lit])
                    have wn : IntKind.u64.wrap ((xn : Int) + 1) = ((xn + 1 : Nat) : Int) := by rw [wrapU (by omega)]; omega
                    have e0 : ((xn : Int) == (xn : Int)) = true := by simp
                    have fr : ∀ o, wr.frozen? ⟨r, o, none⟩ = false := fun o => R.out.c.fz o
                    obtain ⟨nS, hnS⟩ : ∃ nS, nS = ss.length := ⟨_, rfl⟩
                    have NS := Lib.hid hnS
                    have rN : r < N1 := by have := R.out.rM; omega
                    have j1 : (1 : Int) ≤ (tl : Int) + 1 := by omega
                    have j2 : (tl : Int) + 1 ≤ (cap3 : Int) := by omega
                    have j3 : 1 ≤ cap3 := by omega
                    have j4 : tl + 1 ≤ cap3 := by omega
                    clear hO hR hU hg hK hn2 DN htl g0
                    go_upto_region 10 with fail
                    go_quiet (fail)
                    have R4 := Lib.hid (R.out.drewN nq)
                    have O4 := Lib.hid (own_below O.out (BK nq))
                    have K4 := Lib.hid (K.out.drewN nq)
                    have z0 : (wr.drewN nq).cell? ⟨b, off, none⟩ = some (.int .u64 (xn : Int)) := k0
                    have z1 : (wr.drewN nq).cell? ⟨b, off + 1, none⟩ = some (.string xb) := k1
                    have z2 : (wr.drewN nq).cell? ⟨r, 1, none⟩ = some (.int .u64 (xn : Int)) := x1
                    have z3 : (wr.drewN nq).cell? ⟨r, 2, none⟩ = some (.slice (some ⟨b, off, none⟩) (tl + 1) cap3) := x2
                    have zN : N1 ≤ (wr.drewN nq).heap.size := hNw
                    have MC := Lib.hid x1
                    clear k0 k1 x0 x1 x2 fr BK R O K
                    generalize wr.drewN nq = wd at *
                    rw [← hnS] at O4 ⊢ hlen
                    go_wp2_with (at_builtin; refine wpList_append_at rfl (.tmp 113) (.tmp 121) 43 rfl N1 9 i1 _ 1 16 Tryz.underlying43 hi1 hy0 hy1 hy2 rfl (by decide) _ _ _ rfl (World.ownsRow.alloc O4.out _) (some ⟨wd.heap.size, 0, none⟩) 1 1 [.string xb] rfl rfl (fun e => by cases e) (fun ad e => by cases e; exact World.news_of_block (heap_alloc_new _ _)) (by simp [Value.oneCell']) (by unfold maxLen; omega) (by omega) (by simp; omega) ?_; intro v6 w6 hown6 hgr6 hat6; obtain ⟨g6, c6, rfl⟩ := ownsRow_succ hown6; have k6 : Keep (fun k => (Value.slice av nS cv).ownBlock = some k) wd w6 := ((Keep.refl _ wd).alloc _).grown hgr6 (fun k h => Or.inl h); have C6 := R4.out.c.keep k6 (fun f => by have := (O4.out.lt r f).1; omega); have v1 : w6.cell? ⟨r, 1, none⟩ = some (.int .u64 (xn : Int)) := C6.c 1 (by decide); have v2 : w6.cell? ⟨r, 2, none⟩ = some (.slice (some ⟨b, off, none⟩) (tl + 1) cap3) := (by rw [C6.c 2 (by decide), TL.out]; rfl); have f1 : w6.frozen? ⟨r, 1, none⟩ = false := C6.fz 1; have f2 : w6.frozen? ⟨r, 2, none⟩ = false := C6.fz 2; have SZ := Lib.hid (show N1 ≤ w6.heap.size from Nat.le_trans zN k6.size); have RS := Lib.hid (fun w4 h4 => rg_step (w4 := w4) (o := .cells #[.string xb] 9) (by rw [← hnS]; exact O4.out) R4.out hMN hWN U.out G.out E2.out K4.out (by rw [← hnS]; exact hown6) (by rw [← hnS]; exact hgr6) HA.out (by rw [← TL.out]; exact h4)); have hnS2 := hnS; clear hnS; rw [← hnS2] at RS; clear hnS2 hown6 hgr6 hat6 k6 C6)
                    go_roundw
                    case rel =>
                      refine ⟨RS.out _ ⟨rfl, rfl, rfl, rfl⟩, ?_⟩
                      have := SZ.out
                      simpa [World.setCell] using this
                    case measure =>
                      rw [World.cell?_setCell_same _ ⟨r, 1, none⟩ _ ((cell_other (i := 1) (j := 2) (by decide)).trans v1), MC.out]
                      simp only [intOf]
                      omega
                  · have ne : (((x.1 : Nat) : Int) == (n2 : Int)) = false := by simp; omega
                    have DN2 := Lib.hid (fun k => DN.out k (by rw [goN, if_neg hx]))
                    clear hO hR hU hg hK hn2 DN hx htl
                    generalize x.1 = z at *
                    go_wp2_with fail
                    go_quiet (fail)
                    go_wp2_with fail
                    go_ret2
                    exact DN2.out _
    · have d3 : decide ((d : Int) ≥ (S.win : Int)) = true := decide_eq_true (by omega)
      have d4 : decide (S.win ≤ d) = true := decide_eq_true (by omega)
      have hm : S.may num = false := by
        cases e : S.may num
        · rfl
        · have := (Dk.may_is.1 e).2.1; omega
      have NO2 := Lib.hid (fun k => NO.out k hm)
      rw [hm] at NO2
      clear NO h1 h2 hm hd
      go_wp2_with fail
      go_quiet (fail)
      go_wp2_with fail
      go_ret2
      exact NO2.out _
end
end Go.Proofs.YtfbojcaedcimcaaGreat

/-
  A tie beside the document's own ship and dock.
-/
namespace Go.Proofs.YtfbojcaedcimcaaGreat
open Go.RowKit

/-- The tie (it writes within F), the document's ship (nothing of it in Y) and dock; rows that the tie gave, boxes: they avoid X. -/
structure TpR (W : World) (N0 M : Nat) (F X Y : Nat → Prop) (t r d : Nat) (T : Te) (S : Sh) (D : Dk) (G : List (Value × List ByteArray)) (Bx : List (Nat × List Value)) (w : World) : Prop where
  tie : TieAt F X w N0 t T
  ship : ReAt w W.heap.size r Y S
  dock : DrAt (fun k => ¬ X k) w d M D
  fd : ¬ F d
  fy : ∀ k, F k → Y k
  dy : Y d ∧ X d
  al : ∀ k, W.heap.size ≤ k → k < w.heap.size → Y k ∨ X k
  x : ∀ k, X k → W.heap.size ≤ k ∧ k < w.heap.size
  m : W.heap.size ≤ M
  be : Below W.heap.size W w
  giv : ∀ x ∈ G, WtR (fun k => ¬ X k) w x.1 x.2
  bx : ∀ x ∈ Bx, (¬ X x.1 ∧ W.heap.size ≤ x.1 ∧ x.1 < w.heap.size) ∧ ∀ i u, x.2[i]? = some u → w.cell? ⟨x.1, i, none⟩ = some u
def Tp (W : World) (t r d : Nat) (T : Te) (S : Sh) (D : Dk) (G : List (Value × List ByteArray)) (Bx : List (Nat × List Value)) (w : World) : Prop := ∃ N0 M F X Y, TpR W N0 M F X Y t r d T S D G Bx w

theorem wtr_wide {X Y K : Nat → Prop} {w w' : World} {v : Value} {ss : List ByteArray} (h : WtR (fun k => ¬ X k) w v ss) (hK : Keep K w w') (hKX : ∀ k, k < w.heap.size → K k → X k) (hY : ∀ k, k < w.heap.size → Y k → X k) : WtR (fun k => ¬ Y k) w' v ss :=
  ((h.mono (A' := fun k => ¬ X k ∧ ¬ Y k) (fun k hk hn => ⟨hn, fun f => hn (hY k hk f)⟩)).carry hK.size (fun k hk hA => hK.block k hk (fun f => hA.1 (hKX k hk f)))).mono (fun _ _ hA => hA.2)

section
variable {W w w' : World} {N0 M t r d n c : Nat} {F X Y F' : Nat → Prop} {T T' : Te} {S S' : Sh} {D D' : Dk} {G : List (Value × List ByteArray)} {Bx : List (Nat × List Value)}
theorem TpR.below (h : TpR W N0 M F X Y t r d T S D G Bx w) (hb : Below w.heap.size w w') : TpR W N0 M F X (fun k => Y k ∨ (w.heap.size ≤ k ∧ k < w'.heap.size)) t r d T S D G Bx w' := by
  have hs := hb.size
  obtain ⟨q, ao, co, aw, cw, hR⟩ := h.ship
  have hys := hR.xs
  refine ⟨h.tie.below hb, ⟨q, ao, co, aw, cw, hR.carry hs (fun k hk _ => hb.block k hk) (fun k f => f.imp id (fun l => l.1)) (fun k f => f.elim (fun f => Nat.lt_of_lt_of_le (hys k f) hs) (fun l => l.2))⟩, h.dock.below hb, h.fd, fun k f => Or.inl (h.fy k f), ⟨Or.inl h.dy.1, h.dy.2⟩, fun k h1 h2 => ?_, fun k hk => ⟨(h.x k hk).1, Nat.lt_of_lt_of_le (h.x k hk).2 hs⟩, h.m, h.be.trans (hb.mono h.be.size), fun x hx => (h.giv x hx).below hb, fun x hx => ?_⟩
  · rcases Nat.lt_or_ge k w.heap.size with h3 | h3
    · exact (h.al k h1 h3).imp Or.inl id
    · exact Or.inl (Or.inr ⟨h3, h2⟩)
  · obtain ⟨⟨h1, h2, h3⟩, h4⟩ := h.bx x hx
    exact ⟨⟨h1, h2, Nat.lt_of_lt_of_le h3 hs⟩, fun i u hu => (hb.cell (p := ⟨x.1, i, none⟩) h3).trans (h4 i u hu)⟩
/-- The tie turned. -/
theorem TpR.left (h : TpR W N0 M F X Y t r d T S D G Bx w) (hT : TieAt F' (fun k => X k ∨ F' k) w' N0 t T') (hK : Keep F w w') (hF : ∀ k, F' k → F k ∨ w.heap.size ≤ k) :
    TpR W N0 M F' (fun k => X k ∨ F' k) (fun k => Y k ∨ (w.heap.size ≤ k ∧ k < w'.heap.size)) t r d T' S D G Bx w' := by
  have hs := hK.size
  have hN := h.be.size
  obtain ⟨q, ao, co, aw, cw, hR⟩ := h.ship
  have hys := hR.xs
  have hFX : ∀ k, k < w.heap.size → (X k ∨ F' k) → X k := fun k hk f => f.elim id (fun f => (hF k f).elim (h.tie.x k) (fun l => by omega))
  have hgrow : ∀ k, F' k → Y k ∨ (w.heap.size ≤ k ∧ k < w'.heap.size) := fun k f => (hF k f).imp (h.fy k) (fun l => ⟨l, (hT.lt k f).2⟩)
  refine ⟨hT, ⟨q, ao, co, aw, cw, hR.carry hs (fun k hk hn => hK.block k hk (fun f => hn (h.fy k f))) (fun k f => f.imp id (fun l => l.1)) (fun k f => f.elim (fun f => Nat.lt_of_lt_of_le (hys k f) hs) (fun l => l.2))⟩, ?_, fun f => ?_, hgrow, ⟨Or.inl h.dy.1, Or.inl h.dy.2⟩, fun k h1 h2 => ?_, fun k hk => ?_, h.m, h.be.trans (hK.below hN (fun k f => (h.x k (h.tie.x k f)).1)),
    fun x hx => wtr_wide (h.giv x hx) hK (fun k _ f => h.tie.x k f) hFX, fun x hx => ?_⟩
  · obtain ⟨a, cap, hV⟩ := h.dock
    exact ⟨a, cap, ⟨hV.c.keep hK h.fd, hV.rM, Nat.le_trans hV.size hs, ((hV.row.mono (A' := fun k => (M ≤ k ∧ ¬ X k) ∧ k < w.heap.size) (fun k hk hA => ⟨hA, hk⟩)).carry hs (fun k hk hA => hK.block k hk (fun f => hA.1.2 (h.tie.x k f)))).mono (fun k _ hA => ⟨hA.1.1, fun f => hA.1.2 (hFX k hA.2 f)⟩)⟩⟩
  · rcases hF d f with f | f
    · exact h.fd f
    · have := (h.x d h.dy.2).2
      omega
  · rcases Nat.lt_or_ge k w.heap.size with h3 | h3
    · exact (h.al k h1 h3).imp Or.inl Or.inl
    · exact Or.inl (Or.inr ⟨h3, h2⟩)
  · rcases hk with hk | hk
    · exact ⟨(h.x k hk).1, Nat.lt_of_lt_of_le (h.x k hk).2 hs⟩
    · refine ⟨?_, (hT.lt k hk).2⟩
      rcases hF k hk with f | f
      · exact (h.x k (h.tie.x k f)).1
      · omega
  · obtain ⟨⟨h1, h2, h3⟩, h4⟩ := h.bx x hx
    exact ⟨⟨fun f => h1 (hFX _ h3 f), h2, Nat.lt_of_lt_of_le h3 hs⟩, fun i u hu => (hK.cell (p := ⟨x.1, i, none⟩) h3 (fun f => h1 (h.tie.x _ f))).trans (h4 i u hu)⟩
/-- The document's ship turned. -/
theorem TpR.right {ret : Value → Value} {g : Nat} {ss : List ByteArray} {E : Ending} (h : TpR W N0 M F X Y t r d T S D G Bx w) (hp : RePost w W.heap.size r Y S' ret g ss E w') :
    ∃ a cap, E = .returned (ret (.slice a ss.length cap)) ∧ RtR (fun _ => True) w' (.slice a ss.length cap) g ss ∧ TpR W N0 M F (fun k => X k ∨ (w.heap.size ≤ k ∧ k < w'.heap.size)) Y t r d T S' D G Bx w' := by
  obtain ⟨a, cap, he, hA, hK, hi⟩ := hp
  have hs := hK.size
  have hN := h.be.size
  have hKX : ∀ k, k < w.heap.size → (W.heap.size ≤ k ∧ ¬ Y k) → X k := fun k hk hA => (h.al k hA.1 hk).resolve_left hA.2
  have hXX : ∀ k, k < w.heap.size → (X k ∨ (w.heap.size ≤ k ∧ k < w'.heap.size)) → X k := fun k hk f => f.elim id (fun l => by omega)
  refine ⟨a, cap, he, hi.mono (fun _ _ _ => trivial), (h.tie.wide (fun k f => Or.inl (h.tie.x k f)) hXX).keep hK (fun k f g => g.2 (h.fy k f)) (fun k hk f => Or.inl (hKX k hk f)), hA, ?_, h.fd, h.fy, ⟨h.dy.1, Or.inl h.dy.2⟩, fun k h1 h2 => ?_, fun k hk => ?_, h.m, h.be.trans (hK.below hN (fun k f => f.1)), fun x hx => wtr_wide (h.giv x hx) hK hKX hXX, fun x hx => ?_⟩
  · obtain ⟨a, cap, hV⟩ := h.dock
    exact ⟨a, cap, ⟨hV.c.keep hK (fun f => f.2 h.dy.1), hV.rM, Nat.le_trans hV.size hs, ((hV.row.mono (A' := fun k => (M ≤ k ∧ ¬ X k) ∧ k < w.heap.size) (fun k hk hA => ⟨hA, hk⟩)).carry hs (fun k hk hA => hK.block k hk (fun f => hA.1.2 (hKX k hk f)))).mono (fun k _ hA => ⟨hA.1.1, fun f => hA.1.2 (hXX k hA.2 f)⟩)⟩⟩
  · rcases Nat.lt_or_ge k w.heap.size with h3 | h3
    · exact (h.al k h1 h3).imp id Or.inl
    · exact Or.inr (Or.inr ⟨h3, h2⟩)
  · rcases hk with hk | hk
    · exact ⟨(h.x k hk).1, Nat.lt_of_lt_of_le (h.x k hk).2 hs⟩
    · exact ⟨by omega, hk.2⟩
  · obtain ⟨⟨h1, h2, h3⟩, h4⟩ := h.bx x hx
    exact ⟨⟨fun f => h1 (hXX _ h3 f), h2, Nat.lt_of_lt_of_le h3 hs⟩, fun i u hu => (hK.cell (p := ⟨x.1, i, none⟩) h3 (fun f => h1 (hKX _ h3 f))).trans (h4 i u hu)⟩
/-- The document's dock turned. -/
theorem TpR.mid {num : Nat} {b : ByteArray} {E : Ending} (h : TpR W N0 M F X Y t r d T S D G Bx w) (hp : RtPost (fun k => ¬ X k) w d M D num b E w') :
    ∃ a cap, E = .returned (.tuple #[.slice a (D.gave num b).length cap, .bool (D.may num)]) ∧ SlV w' a cap ((D.gave num b).map Value.string) ∧ TpR W N0 M F X (fun k => Y k ∨ (w.heap.size ≤ k ∧ k < w'.heap.size)) t r d T S (D.came num b) G Bx w' := by
  obtain ⟨a, cap, he, hs1, hA, hK⟩ := hp
  have hs := hK.size
  have hN := h.be.size
  obtain ⟨q, ao, co, aw, cw, hR⟩ := h.ship
  have hys := hR.xs
  refine ⟨a, cap, he, hs1, h.tie.keep hK (fun k f g => h.fd (g ▸ f)) (fun k _ e => e ▸ h.dy.2), ⟨q, ao, co, aw, cw, hR.carry hs (fun k hk hn => hK.block k hk (fun e => hn (e ▸ h.dy.1))) (fun k f => f.imp id (fun l => l.1)) (fun k f => f.elim (fun f => Nat.lt_of_lt_of_le (hys k f) hs) (fun l => l.2))⟩, hA, h.fd, fun k f => Or.inl (h.fy k f), ⟨Or.inl h.dy.1, h.dy.2⟩, fun k h1 h2 => ?_, fun k hk => ⟨(h.x k hk).1, Nat.lt_of_lt_of_le (h.x k hk).2 hs⟩, h.m,
    h.be.trans (hK.below hN (fun k e => e ▸ (h.x d h.dy.2).1)), fun x hx => wtr_wide (h.giv x hx) hK (fun k _ e => e ▸ h.dy.2) (fun _ _ f => f), fun x hx => ?_⟩
  · rcases Nat.lt_or_ge k w.heap.size with h3 | h3
    · exact (h.al k h1 h3).imp Or.inl id
    · exact Or.inl (Or.inr ⟨h3, h2⟩)
  · obtain ⟨⟨h1, h2, h3⟩, h4⟩ := h.bx x hx
    exact ⟨⟨h1, h2, Nat.lt_of_lt_of_le h3 hs⟩, fun i u hu => (hK.cell (p := ⟨x.1, i, none⟩) h3 (fun e => h1 ((show x.1 = d from e) ▸ h.dy.2))).trans (h4 i u hu)⟩

theorem Tp.below (h : Tp W t r d T S D G Bx w) (hb : Below w.heap.size w w') : Tp W t r d T S D G Bx w' := by
  obtain ⟨N0, M, F, X, Y, h⟩ := h
  exact ⟨_, _, _, _, _, h.below hb⟩
theorem Tp.drewN (h : Tp W t r d T S D G Bx w) (k : Nat) : Tp W t r d T S D G Bx (w.drewN k) := h.below ⟨rfl, rfl, rfl, Nat.le_refl _, fun _ _ => rfl⟩
theorem Tp.be (h : Tp W t r d T S D G Bx w) : Below W.heap.size W w := by
  obtain ⟨N0, M, F, X, Y, h⟩ := h
  exact h.be
theorem Tp.less (h : Tp W t r d T S D G Bx w) : Tp W t r d T S D [] [] w := by
  obtain ⟨N0, M, F, X, Y, h⟩ := h
  exact ⟨N0, M, F, X, Y, {h with giv := fun x hx => (by cases hx), bx := fun x hx => (by cases hx)}⟩
theorem Tp.get (h : Tp W t r d T S D G Bx w) {x : Value × List ByteArray} (hx : x ∈ G) : WtR (fun _ => True) w x.1 x.2 := by
  obtain ⟨N0, M, F, X, Y, h⟩ := h
  exact (h.giv x hx).mono (fun _ _ _ => trivial)
theorem Tp.box (h : Tp W t r d T S D G Bx w) {x : Nat × List Value} (hx : x ∈ Bx) : ∀ i u, x.2[i]? = some u → w.cell? ⟨x.1, i, none⟩ = some u := by
  obtain ⟨N0, M, F, X, Y, h⟩ := h
  exact (h.bx x hx).2
/-- A block of the call's own is made. -/
theorem Tp.make (h : Tp W t r d T S D G Bx w) (cs : List Value) (ty : TypeId) : Tp W t r d T S D G ((w.heap.size, cs) :: Bx) (w.alloc (.cells cs.toArray ty)) := by
  obtain ⟨N0, M, F, X, Y, h⟩ := h
  have hb : Below w.heap.size w (w.alloc (.cells cs.toArray ty)) := (Below.refl _ _).alloc (Nat.le_refl _) _
  have h2 := h.below hb
  have hsz : (w.alloc (.cells cs.toArray ty)).heap.size = w.heap.size + 1 := World.size_alloc ..
  refine ⟨N0, M, F, X, _, {h2 with bx := fun x hx => ?_}⟩
  rcases List.mem_cons.1 hx with rfl | hx
  · refine ⟨⟨fun f => ?_, h.be.size, by simp only; omega⟩, fun i u hu => ?_⟩
    · have := (h.x _ f).2
      simp only at this
      omega
    · have := World.news_of_block (cs := cs.toArray) (fr := (0, 0)) (heap_alloc_new w (.cells cs.toArray ty)) i u (by simpa using hu)
      rw [Addr.add_lit, Nat.zero_add] at this
      exact this
  · exact h2.bx x hx
/-- What the document's hold. -/
theorem Tp.cells (h : Tp W t r d T S D G Bx w) : ∃ ao co aw cw ad cd, w.cell? ⟨r, 3, none⟩ = some (.slice ao S.out.length co) ∧ w.cell? ⟨r, 4, none⟩ = some (.slice aw S.waits.length cw) ∧ w.cell? ⟨r, 5, none⟩ = some (.int .u64 (S.last : Nat)) ∧
    w.cell? ⟨d, 1, none⟩ = some (.int .u64 ((D.next : Nat) : Int)) ∧ w.cell? ⟨d, 2, none⟩ = some (.slice ad D.held.length cd) := by
  obtain ⟨N0, M, F, X, Y, h⟩ := h
  obtain ⟨q, ao, co, aw, cw, hR⟩ := h.ship
  obtain ⟨a, cap, hV⟩ := h.dock
  obtain ⟨c0, c1, c2, c3, c4, c5⟩ := hR.cells
  obtain ⟨d0, d1, d2⟩ := hV.cells
  exact ⟨ao, co, aw, cw, a, cap, c3, c4, c5, d1, d2⟩

theorem TpR.op {ret : Value → Value} {ss : List ByteArray} {E : Ending} (h : TpR W N0 M F X Y t r d T S D G Bx w) (hp : TiePost w N0 t F X T' ret ss E w') : ∃ a' cap, E = .returned (ret (.slice a' ss.length cap)) ∧ Tp W t r d T' S D ((.slice a' ss.length cap, ss) :: G) Bx w' := by
  obtain ⟨F', a', cap, he, hT, hK, hF, hW⟩ := hp
  have h2 := h.left hT hK hF
  refine ⟨a', cap, he, N0, M, F', _, _, {h2 with giv := fun x hx => ?_}⟩
  rcases List.mem_cons.1 hx with rfl | hx
  · exact hW
  · exact h2.giv x hx
theorem tp_push {Z : Nat → Prop} {b : Bd} {rp : Bool} (h : Tp W t r d T S D G Bx w) (ho : T.s.ok n) (hn : n ≤ 500) (hb : BodyV Z w b) (hbs : b.s.size ≤ 30000) :
    Calls Tryz.prog 10 #[.pointer (some ⟨t, 0, none⟩), .slice b.a b.s.size b.c, .bool rp] w fun E w' => ∃ a cap, E = .returned (.tuple #[.slice a (T.pushO rp b.s).length cap, .bool (T.s.room rp)]) ∧ Tp W t r d (T.push rp b.s) S D ((.slice a (T.pushO rp b.s).length cap, T.pushO rp b.s) :: G) Bx w' := by
  obtain ⟨N0, M, F, X, Y, h⟩ := h
  exact (tie_push h.tie (fun k hk => (h.x k hk).2) ho hn hb hbs).mono fun E w' hp => h.op hp
theorem tp_tick (h : Tp W t r d T S D G Bx w) (ho : T.s.ok n) (hn : n ≤ 500) :
    Calls Tryz.prog 19 #[.pointer (some ⟨t, 0, none⟩)] w fun E w' => ∃ a cap, E = .returned (.slice a T.tickO.length cap) ∧ Tp W t r d T.tick S D ((.slice a T.tickO.length cap, T.tickO) :: G) Bx w' := by
  obtain ⟨N0, M, F, X, Y, h⟩ := h
  exact (tie_tick h.tie (fun k hk => (h.x k hk).2) ho hn).mono fun E w' hp => h.op hp
theorem tp_hear {Z : Nat → Prop} {b : Bd} (h : Tp W t r d T S D G Bx w) (ho : T.s.ok n) (hn : n ≤ 500) (hd : T.d.ok c) (hc : c < 1000) (hb : BodyV Z w b) (hl : b.s.size ≤ 1000000) :
    Calls Tryz.prog 14 #[.pointer (some ⟨t, 0, none⟩), bdV b] w fun E w' => ∃ au cu ad cd, E = .returned (.tuple #[.slice au (T.up (okB b.s) (gotB b.s)).length cu, .slice ad (T.down (okB b.s) (gotB b.s)).length cd, .int .i64 (if okB b.s then 0 else 2)]) ∧
      Tp W t r d (T.hear (okB b.s) (gotB b.s)) S D ((.slice au (T.up (okB b.s) (gotB b.s)).length cu, T.up (okB b.s) (gotB b.s)) :: (.slice ad (T.down (okB b.s) (gotB b.s)).length cd, T.down (okB b.s) (gotB b.s)) :: G) Bx w' := by
  obtain ⟨N0, M, F, X, Y, h⟩ := h
  refine (tie_hear h.tie (fun k hk => (h.x k hk).2) ho hn hd hc hb hl).mono fun E w' hp => ?_
  obtain ⟨F', au, cu, ad, cd, he, hT, hK, hF, hU, hD⟩ := hp
  have h2 := h.left hT hK hF
  refine ⟨au, cu, ad, cd, he, N0, M, F', _, _, {h2 with giv := fun x hx => ?_}⟩
  rcases List.mem_cons.1 hx with rfl | hx
  · exact hU
  · rcases List.mem_cons.1 hx with rfl | hx
    · exact hD
    · exact h2.giv x hx
theorem tp_room (h : Tp W t r d T S D G Bx w) (ho : T.s.ok n) (rp : Bool) : Calls Tryz.prog 8 #[.pointer (some ⟨t, 0, none⟩), .bool rp] w fun E w' => E = .returned (.bool (T.s.room rp)) ∧ ∃ n, w' = w.drewN n := by
  obtain ⟨N0, M, F, X, Y, h⟩ := h
  exact tie_room h.tie ho rp
theorem tp_state (h : Tp W t r d T S D G Bx w) (ho : T.s.ok n) (hn : n ≤ 500) (hd : T.d.ok c) : Calls Tryz.prog 21 #[.pointer (some ⟨t, 0, none⟩)] w fun E w' => E = .returned (stV T) ∧ Tp W t r d T S D G Bx w' := by
  have h0 := h
  obtain ⟨N0, M, F, X, Y, h⟩ := h
  exact (tie_state h.tie ho hn hd).mono fun E w' hp => ⟨hp.1, h0.below hp.2⟩
theorem tp_quiet {b : Bool} (h : Tp W t r d T S D G Bx w) (ho : T.s.ok n) (hn : n ≤ 500) (hd : T.d.ok c) (hb : decide (T.s.out.length = 0 ∧ T.s.waits.length = 0 ∧ T.d.held.length = 0) = b) :
    Calls Tryz.prog 22 #[.pointer (some ⟨t, 0, none⟩)] w fun E w' => E = .returned (.bool b) ∧ Tp W t r d T S D G Bx w' := by
  have h0 := h
  obtain ⟨N0, M, F, X, Y, h⟩ := h
  exact (tie_quiet h.tie ho hn hd hb).mono fun E w' hp => ⟨hp.1, h0.below hp.2⟩

theorem rs_room (h : Tp W t r d T S D G Bx w) (ho : S.ok n) (rp : Bool) : Calls Tryz.prog 9 #[.pointer (some ⟨r, 0, none⟩), .bool rp] w fun E w' => E = .returned (.bool (S.room rp)) ∧ ∃ n, w' = w.drewN n := by
  obtain ⟨N0, M, F, X, Y, h⟩ := h
  obtain ⟨q, ao, co, aw, cw, hR⟩ := h.ship
  have := re_room hR rp ho.que
  rwa [← Sh.room_eq] at this
theorem rs_push {s : ByteArray} {rp : Bool} (h : Tp W t r d T S D G Bx w) (ho : S.ok n) (hn : n ≤ 500) :
    Calls Tryz.prog 11 #[.pointer (some ⟨r, 0, none⟩), .string s, .bool rp] w fun E w' => ∃ a cap, E = .returned (.tuple #[.slice a (S.pushI rp s).length cap, .bool (S.room rp)]) ∧ RtR (fun _ => True) w' (.slice a (S.pushI rp s).length cap) S.last (S.pushI rp s) ∧ Tp W t r d T (S.pushed rp s) D G Bx w' := by
  obtain ⟨N0, M, F, X, Y, h⟩ := h
  have hc : Calls Tryz.prog 11 #[.pointer (some ⟨r, 0, none⟩), .string s, .bool rp] w (RePost w W.heap.size r Y (S.pushed rp s) (fun v => .tuple #[v, .bool (S.room rp)]) S.last (S.pushI rp s)) := by
    unfold Sh.pushed Sh.pushI
    cases hr : S.room rp
    · exact re_push_no h.ship ho hr
    · exact re_push_ok h.ship ho hn hr
  exact hc.mono fun E w' hp => by
    obtain ⟨a, cap, he, hi, h2⟩ := h.right hp
    exact ⟨a, cap, he, hi, _, _, _, _, _, h2⟩
theorem rs_ack {k : Nat} (h : Tp W t r d T S D G Bx w) (ho : S.ok n) (hn : n ≤ 500) :
    Calls Tryz.prog 16 #[.pointer (some ⟨r, 0, none⟩), .int .u64 (k : Int)] w fun E w' => ∃ a cap, E = .returned (.slice a (S.ackI k).length cap) ∧ RtR (fun _ => True) w' (.slice a (S.ackI k).length cap) S.last (S.ackI k) ∧ Tp W t r d T (S.acked k) D G Bx w' := by
  obtain ⟨N0, M, F, X, Y, h⟩ := h
  have hc : Calls Tryz.prog 16 #[.pointer (some ⟨r, 0, none⟩), .int .u64 (k : Int)] w (RePost w W.heap.size r Y (S.acked k) (fun v => v) S.last (S.ackI k)) := by
    unfold Sh.acked Sh.ackI
    cases hr : S.acks k
    · exact re_ack_no h.ship hr
    · exact re_ack_ok h.ship ho hn hr
  exact hc.mono fun E w' hp => by
    obtain ⟨a, cap, he, hi, h2⟩ := h.right hp
    exact ⟨a, cap, he, hi, _, _, _, _, _, h2⟩
theorem rs_tick (h : Tp W t r d T S D G Bx w) (ho : S.ok n) (hn : n ≤ 500) :
    Calls Tryz.prog 20 #[.pointer (some ⟨r, 0, none⟩)] w fun E w' => ∃ a cap, E = .returned (.slice a S.tickI.length cap) ∧ RtR (fun _ => True) w' (.slice a S.tickI.length cap) S.g S.tickI ∧ Tp W t r d T S.tick D G Bx w' := by
  obtain ⟨N0, M, F, X, Y, h⟩ := h
  exact (re_tick h.ship ho hn).mono fun E w' hp => by
    obtain ⟨a, cap, he, hi, h2⟩ := h.right hp
    exact ⟨a, cap, he, hi, _, _, _, _, _, h2⟩
theorem rs_take {num : Nat} {b : ByteArray} (h : Tp W t r d T S D G Bx w) (hd : D.ok c) (hc : c ≤ 1000) (hn : num < 18446744073709551616) :
    Calls Tryz.prog 17 #[.pointer (some ⟨d, 0, none⟩), .int .u64 (num : Nat), .string b] w fun E w' => ∃ a cap, E = .returned (.tuple #[.slice a (D.gave num b).length cap, .bool (D.may num)]) ∧ SlV w' a cap ((D.gave num b).map Value.string) ∧ Tp W t r d T S (D.came num b) G Bx w' := by
  obtain ⟨N0, M, F, X, Y, h⟩ := h
  exact (rd_take h.dock hd hc hn (fun k hk f => by have := (h.x k f).2; omega)).mono fun E w' hp => by
    obtain ⟨a, cap, he, hi, h2⟩ := h.mid hp
    exact ⟨a, cap, he, hi, _, _, _, _, _, h2⟩
/-- A call that turns nothing that was there. -/
theorem tp_below {R : Ending → World → Prop} {f : FuncId} {args : Array Value} {Pp : Ending → World → Prop} (h : Tp W t r d T S D G Bx w) (hc : Calls Tryz.prog f args w Pp) (hP : ∀ E w', Pp E w' → R E w' ∧ Below w.heap.size w w') :
    Calls Tryz.prog f args w fun E w' => R E w' ∧ Tp W t r d T S D G Bx w' := hc.mono fun E w' hp => ⟨(hP E w' hp).1, h.below (hP E w' hp).2⟩
end

/-- All three, new. -/
theorem tp_new {W w0 w1 w2 w3 : World} {t r d wi qu f m : Nat} {F : Nat → Prop} (hB0 : Below W.heap.size W w0) (ht : ∀ X : Nat → Prop, (∀ k, F k → X k) → TieAt F X w1 w0.heap.size t (Te.new wi qu f m)) (h1 : Below w0.heap.size w0 w1) (hr : ReAt w2 W.heap.size r (fun k => k < w1.heap.size) (Sh.new wi qu f m)) (h2 : Below w1.heap.size w1 w2)
    (hd : ∀ Z : Nat → Prop, DrAt Z w3 d w3.heap.size (Dk.new wi)) (hdl : w2.heap.size ≤ d) (h3 : Below w2.heap.size w2 w3) : Tp W t r d (Te.new wi qu f m) (Sh.new wi qu f m) (Dk.new wi) [] [] w3 := by
  have hs0 := hB0.size
  have hs1 := h1.size
  have hs2 := h2.size
  have hs3 := h3.size
  have hA := ht (fun k => F k ∨ k = d ∨ (w1.heap.size ≤ k ∧ k < w2.heap.size)) (fun k h => Or.inl h)
  have hdr := hd (fun k => ¬ (F k ∨ k = d ∨ (w1.heap.size ≤ k ∧ k < w2.heap.size)))
  obtain ⟨a, cap, hV⟩ := hdr
  have hdlt := hV.rM
  obtain ⟨q, ao, co, aw, cw, hR⟩ := hr
  refine ⟨w0.heap.size, w3.heap.size, F, _, fun k => k < w1.heap.size ∨ (w2.heap.size ≤ k ∧ k < w3.heap.size), ⟨(hA.below h2).below h3, ⟨q, ao, co, aw, cw, hR.carry hs3 (fun k hk _ => h3.block k hk) (fun k f => f.imp id (fun l => l.1)) (fun k f => ?_)⟩, ⟨a, cap, hV⟩, fun f => ?_, fun k f => Or.inl (hA.lt k f).2, ⟨Or.inr ⟨hdl, hdlt⟩, Or.inr (Or.inl rfl)⟩, fun k h1 h2 => ?_, fun k hk => ?_, by omega, ((hB0.trans (h1.mono hs0)).trans (h2.mono (by omega))).trans (h3.mono (by omega)), fun x hx => (by cases hx), fun x hx => (by cases hx)⟩⟩
  · rcases f with f | f
    · omega
    · exact f.2
  · have := (hA.lt d f).2
    omega
  · by_cases e1 : k < w1.heap.size
    · exact Or.inl (Or.inl e1)
    · by_cases e2 : k < w2.heap.size
      · exact Or.inr (Or.inr (Or.inr ⟨by omega, e2⟩))
      · exact Or.inl (Or.inr ⟨by omega, h2⟩)
  · rcases hk with hk | rfl | hk
    · have := hA.lt k hk
      omega
    · omega
    · omega

end Go.Proofs.YtfbojcaedcimcaaGreat
