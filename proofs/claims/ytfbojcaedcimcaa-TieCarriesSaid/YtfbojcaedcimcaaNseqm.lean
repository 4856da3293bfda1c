import Derived.Test.YtfbojcaedcimcaaNkeysm
import Derived.Test.YtfbojcaedcimcaaMab
import Derived.Shelf.Abstract

/-
  The keys of a map, collected and sorted.
-/
namespace Go.Proofs.Ytfbojcaedcimcaa
open Go.RowKit Go.Shelf

section
variable {H : Type} {R : Value → Option (DataW H × List MemPlace)} {D : DataW H}
attribute [local go_sem] Oper.semAt_some

theorem info_n {i? : Option TypeInfo} {z : Value} {s b : Nat} (h : i?.map (fun i => (i.zero, i.size, i.bytes)) = some (some z, s, b)) : ∃ i, i? = some i ∧ i.zero = some z ∧ i.size = s ∧ i.bytes = b := by
  cases i? with
  | none => simp at h
  | some i => simp at h; exact ⟨i, rfl, h.1, h.2.1, h.2.2⟩

/-- Between two rounds. -/
def SeqInv (W : World) (pre : List Nat) (A : World) : Prop :=
  (∃ v, Boxed A W.heap.size 63 v ∧ A.ownsRow W.heap.size 33 1 v pre.length (pre.map uN) ∧ True) ∧ Below W.heap.size W A
theorem seqInv_own (W : World) (B : Nat) (hB : W.heap.size ≤ B) : OwnFrom B (SeqInv W) :=
  OwnFrom.and ((holdsRow_own W.heap.size W.heap.size 63 33 1 (fun (s : List Nat) => s.length) (fun s => s.map uN) (fun _ _ => True)).from B) (ownFrom_below (Nat.le_refl _) hB)

def SeqPost (D : DataW H) (W : World) (e : Ending) (w : World) : Prop :=
  ∃ (v : Value) (ss : List Nat), e = .returned v ∧ KeysOf D ss ∧ w.ownsRow W.heap.size 33 1 v ss.length (ss.map uN) ∧ Below W.heap.size W w

set_option maxRecDepth 20000 in
set_option maxHeartbeats 4000000 in
theorem append_any {Bm b nn : Nat} (W : World) (hBm : Bm < W.heap.size) (hm : W.cell? ⟨Bm, 0, none⟩ = some (.map (some b))) (hown : W.ownsMap Try.prog 33 R b nn D) (hD : Maps.size D ≤ 100) :
    CallsIn Fence.wide 6 Try.prog 63 #[.slice none 0 0, .func (.func 59) #[] #[.pointer (some ⟨Bm, 0, none⟩)]] W (SeqPost D W) := by
  obtain ⟨i0, hi0, hz0, hz1, hz2⟩ := info_n Try.infoU
  refine callsIn_of_wp_marks Try.func63 rfl trivial ?_ rfl
  simp only [Try.ntmps63, List.size_toArray, List.length_cons, List.length_nil, Nat.reduceAdd, Nat.reduceSub, Array.replicate_succ, Array.replicate_zero, List.push_toArray, List.append_toArray, List.nil_append, List.cons_append]
  gi_wp2
  obtain ⟨W1, hW1⟩ : ∃ W1, W.alloc (.cells #[.slice none 0 0] 63) = W1 := ⟨_, rfl⟩
  have hs1 : W1.heap.size = W.heap.size + 1 := by rw [← hW1]; simp
  have hb1 : Below W.heap.size W W1 := by rw [← hW1]; exact (Below.refl _ _).alloc (Nat.le_refl _) _
  have h0 : SeqInv W [] W1 := by
    refine ⟨⟨.slice none 0 0, ?_, World.ownsRow_nil .., trivial⟩, hb1⟩
    rw [← hW1]
    exact Boxed.new W 63 _
  rw [hW1]
  clear hW1
  have hown1 : ∀ V, Below W1.heap.size W1 V → V.ownsMap Try.prog 33 R b nn D := fun V hV => by
    have hl := hown.lt
    obtain ⟨es, clock, hb, Ft, hs, hD⟩ := hown
    exact ⟨es, clock, ((hV.block b (by omega)).trans (hb1.block b hl)).trans hb, Ft, hs, hD⟩
  have hm1 : ∀ V, Below W1.heap.size W1 V → V.cell? ⟨Bm, 0, none⟩ = some (.map (some b)) := fun V hV => (hV.cell (p := ⟨Bm, 0, none⟩) (by show Bm < _; omega)).trans ((hb1.cell (p := ⟨Bm, 0, none⟩) hBm).trans hm)
  refine wpIn_rangeFunc_ownF (F := Fence.wide) (n := 6) rfl (by decide) (gf := 59) (lb := #[.pointer (some ⟨Bm, 0, none⟩)]) rfl trivial (enters_of Try.func59 (by kernel_rfl) rfl)
    (encs := fun x : Nat => #[uN x]) (Kp := KeepsWalks) (S := KeysOf D) (Sp := fun _ => True) (N := Maps.size D) (w0 := W1)
    (fun l J Jx V hV hJ _ hY hJ0 => keys_stop (R := R) (D := D) 5 l (by decide) J Jx V (hm1 V hV) (hown1 V hV) hJ hY hJ0)
    walksK_t walksK_b (Below.refl _ _) (fun _ => rfl) (SeqInv W) (fun _ _ _ => False) (seqInv_own W W1.heap.size (by omega)) (fun _ _ _ _ _ h _ _ => h.elim) h0
    (fun x => { tmps := #[.slice none 0 0, .func (.func 59) #[] #[.pointer (some ⟨Bm, 0, none⟩)], .pointer (some ⟨W.heap.size, 0, none⟩), undef, .slice none 0 0, uN x,
      .func (.func 59) #[] #[.pointer (some ⟨Bm, 0, none⟩)], uN x, undef, undef, undef, undef, undef], defers := [] }) ?assign ?body ?done ?stop
  case assign =>
    intro l x V K hK
    gi_wp2
    exact hK
  case body =>
    intro l pre x V hI hlen
    obtain ⟨⟨v, hv, hrow, -⟩, hb⟩ := hI
    have c0 := hv.cell
    have f0 := hv.frozen
    have hne : 63 ≠ 33 := by decide
    have E := Lib.hid (fun v' w1 (tmp : Obj) (h1 : w1.ownsRow W.heap.size 33 1 v' (pre.length + 1) (pre.map uN ++ [uN x])) (h2 : (V.alloc tmp).grownBy w1 v.ownBlock) => hv.appended hne hrow hb.size (Nat.le_refl _) h1 h2)
    have F := Lib.hid hrow
    have G := Lib.hid hb
    have hl := hv.lt
    clear hv hrow hb
    unfold uN
    gi_wp2_with (gi_at_builtin; refine wpListIn_append_own _ rfl _ _ 63 rfl W.heap.size 33 i0 (.int .u64 0) 1 8 Try.underlying63 hi0 hz0 hz1 hz2 rfl (by decide) _ _ _ rfl (F.out.alloc _) ⟨V.heap.size, 0, none⟩ 1 1 [uN x] rfl rfl (cell_one_new _ _ _) (by simp [Value.oneCell', uN]) (by unfold maxLen; omega) (by omega) (by have := G.out.size; simp; omega) ?_; intro v' w3 hown' hg3 hnil3; have E3 := Lib.hid (E.out _ _ _ hown' hg3); have c3 := E3.out.1.cell; have f3 := E3.out.1.frozen; obtain ⟨g', cap', rfl⟩ := ownsRow_succ hown'; clear hown' hg3 hnil3)
    obtain ⟨-, e2, e3, e4, e5⟩ := E3.out
    exact ⟨e4, e4.walks, ⟨_, e2, by rw [List.length_append, List.map_append]; exact e3, trivial⟩, G.out.trans e5⟩
  case done =>
    intro Dd xs V hDd hS hI hV
    obtain ⟨⟨v, hv, hrow, -⟩, hb⟩ := hI
    have c0 := hv.cell
    have E := Lib.hid (show KeysOf D xs ∧ (V.putObj Dd (.deferred none)).ownsRow W.heap.size 33 1 v xs.length (xs.map uN) ∧ Below W.heap.size W (V.putObj Dd (.deferred none)) from
      ⟨hS, ownsRow_putObj hrow _ hV rfl, hb.trans ⟨rfl, rfl, rfl, by simp, fun k hk => World.putObj_heap_other (by omega)⟩⟩)
    clear hS hrow hb hv
    gi_wp2
    refine ⟨by simp, .inl ⟨_, _, rfl, run_takeDeferred hV, ?_⟩⟩
    exact ⟨_, results_tmp rfl _ _ _, v, xs, rfl, E.out⟩
  case stop =>
    intro Dd c pre V _ _ h _
    exact h.elim

theorem collect_any {Bm b nn : Nat} (W : World) (hBm : Bm < W.heap.size) (hm : W.cell? ⟨Bm, 0, none⟩ = some (.map (some b))) (hown : W.ownsMap Try.prog 33 R b nn D) (hD : Maps.size D ≤ 100) :
    Calls Try.prog 57 #[.func (.func 59) #[] #[.pointer (some ⟨Bm, 0, none⟩)]] W (SeqPost D W) := by
  have C := Lib.hid (callsIn_wide.1 (append_any (R := R) (D := D) W hBm hm hown hD))
  clear hown hm
  go_enter Try.func57, Try.ntmps57
  go_wp2_with (go_at_call 63; refine C.out.mono ?_; rintro e w' ⟨v, ss, rfl, h⟩; have H := Lib.hid h; clear h)
  go_ret
  exact ⟨v, ss, rfl, H.out⟩

/-- Sorted, in memory of its own. -/
def SrtPost (D : DataW H) (W : World) (e : Ending) (w : World) : Prop :=
  ∃ (a : Option Addr) (cap : Nat) (ns : List Nat), e = .returned (.slice a ns.length cap) ∧ ns.Pairwise (· < ·) ∧ (∀ x, x ∈ ns ↔ Maps.has D (kN x) = true) ∧ SlV w a cap (ns.map uN) ∧ (∀ ad, a = some ad → W.heap.size ≤ ad.block) ∧ Below W.heap.size W w

theorem row_of_own {w : World} {N n g cap : Nat} {ss : List Nat} (h : w.ownsRow N 33 1 (.slice (some ⟨g, 0, none⟩) n cap) n (ss.map uN)) : n = ss.length ∧ n ≤ cap ∧ cap ≤ maxLen ∧ N ≤ g ∧ Row n w g (fun i => ss.getD i 0) := by
  have hn : n = ss.length := by have := h.1; simp at this; omega
  rcases h.2 with ⟨e, _⟩ | ⟨g', cap', cur, e, hg, hb, h1, h2, h3, h4⟩
  · cases e
  · cases e
    refine ⟨hn, h1, h2, hg, fun o ho => ?_, fun o => ?_, (Array.getElem?_eq_some_iff.1 hb).1⟩
    · have := h.cellAt o (by omega)
      rw [this, List.getElem?_map, List.getElem?_eq_getElem (by omega)]
      simp [uV, uN, List.getElem?_eq_getElem (show o < ss.length by omega)]
    · simp [World.frozen?, hb]
theorem inj_of_nodup {ss : List Nat} (h : ss.Nodup) : Inj ss.length (fun i => ss.getD i 0) := by
  intro i j hi hj e
  simp only [List.getD_eq_getElem?_getD, List.getElem?_eq_getElem hi, List.getElem?_eq_getElem hj, Option.getD_some] at e
  exact (List.getElem?_inj hi h).1 (by rw [List.getElem?_eq_getElem hi, List.getElem?_eq_getElem hj, e])
theorem srt_pw {n : Nat} {f : Nat → Nat} (h : Srt 0 n f) : ((List.range n).map f).Pairwise (· < ·) := by
  rw [List.pairwise_map]
  refine List.Pairwise.imp_of_mem (R := fun a b => a < b) (fun {a b} ha hb hab => h a b (Nat.zero_le _) hab (List.mem_range.1 hb)) List.pairwise_lt_range
theorem srt_mem {ss : List Nat} {f : Nat → Nat} (h : Sw 0 ss.length (fun i => ss.getD i 0) f) (x : Nat) : x ∈ (List.range ss.length).map f ↔ x ∈ ss := by
  rw [List.mem_map]
  constructor
  · rintro ⟨i, hi, rfl⟩
    obtain ⟨j, _, hj, e⟩ := h.was i (Nat.zero_le _) (List.mem_range.1 hi)
    rw [e]
    simp [List.getElem?_eq_getElem hj]
  · intro hx
    obtain ⟨j, hj, e⟩ := List.mem_iff_getElem.1 hx
    obtain ⟨i, _, hi, e2⟩ := h.is j (Nat.zero_le _) hj
    refine ⟨i, List.mem_range.2 hi, ?_⟩
    rw [e2, ← e]
    simp [List.getElem?_eq_getElem hj]
theorem slv_of_row {w : World} {n g cap : Nat} {f : Nat → Nat} (h : Row n w g f) (h1 : n ≤ cap) (h2 : cap ≤ maxLen) : SlV w (some ⟨g, 0, none⟩) cap (((List.range n).map f).map uN) := by
  refine ⟨by simpa using h1, h2, (fun e => by cases e), fun i hi => ⟨g, 0, rfl, h.lt, ?_⟩⟩
  have hi2 : i < n := by simpa using hi
  rw [Nat.zero_add, h.at hi2]
  simp [uN]

theorem sorted_any {Bm b nn : Nat} (W : World) (hBm : Bm < W.heap.size) (hm : W.cell? ⟨Bm, 0, none⟩ = some (.map (some b))) (hown : W.ownsMap Try.prog 33 R b nn D) (hD : Maps.size D ≤ 15) :
    Calls Try.prog 45 #[.func (.func 59) #[] #[.pointer (some ⟨Bm, 0, none⟩)]] W (SrtPost D W) := by
  have C := Lib.hid (collect_any (R := R) (D := D) W hBm hm hown (by omega))
  clear hown hm
  go_enter Try.func45, Try.ntmps45
  go_upto_region 2 with (go_at_call 57; refine C.out.mono ?_; rintro e w2 ⟨v, ss, rfl, hk, hrow, hb⟩)
  obtain ⟨k1, k2, k3⟩ := hk
  rcases hrow.2 with ⟨rfl, hz⟩ | ⟨g, cap, cur, rfl, _⟩
  · obtain rfl : ss = [] := List.eq_nil_of_length_eq_zero hz
    have E := Lib.hid (show SrtPost D W (.returned (.slice none 0 0)) w2 from ⟨none, 0, [], rfl, List.Pairwise.nil, k2, SlV.none w2, (fun _ e => by cases e), hb⟩)
    clear k1 k2 k3 hrow hb
    go_wp2_with (go_at_call 58; refine (sort_none w2).mono ?_; rintro e w3 ⟨rfl, rfl⟩)
    go_ret
    exact E.out
  · obtain ⟨-, h1, h2, h3, hr⟩ := row_of_own hrow
    have S := Lib.hid (sort_any (cap := cap) hr (inj_of_nodup k1) (by omega))
    have E := Lib.hid (fun w3 (f : Nat → Nat) (p : Sw 0 ss.length (fun i => ss.getD i 0) f) (hs : Srt 0 ss.length f) (hR : Row ss.length w3 g f) (hK : Keep (fun j => j = g) w2 w3) => show SrtPost D W (.returned (.slice (some ⟨g, 0, none⟩) ss.length cap)) w3 from
      ⟨some ⟨g, 0, none⟩, cap, (List.range ss.length).map f, by rw [List.length_map, List.length_range], srt_pw hs, fun x => (srt_mem p x).trans (k2 x), slv_of_row hR h1 h2, (fun _ e => by cases e; exact h3), hb.trans (hK.below hb.size (fun k e => by rw [e]; exact h3))⟩)
    clear k1 k2 k3 hrow hb hr
    generalize ss.length = n at *
    go_wp2_with (go_at_call 58; refine S.out.mono ?_; rintro e w3 ⟨rfl, f, p1, p2, p3, p4⟩; have E2 := Lib.hid (E.out w3 f p1 p2 p3 p4); clear p1 p2 p3 p4)
    go_ret
    exact E2.out

theorem keys_call (mb : Option Nat) (W : World) : Calls Try.prog 46 #[.map mb] W fun e w' => e = .returned (.func (.func 59) #[] #[.pointer (some ⟨W.heap.size, 0, none⟩)]) ∧ w' = W.alloc (.cells #[.map mb] 71) := by
  go_enter Try.func46, Try.ntmps46
  go_wp2_with fail
  go_ret
  exact ⟨rfl, rfl⟩

end
end Go.Proofs.Ytfbojcaedcimcaa
