/-
  A key is put among a meter's runs: the walk.
-/
import Derived.Test.YtlbbbabieepabaaMkeep
namespace Go.Proofs.Ytlbbbabieepabaa
open Go.RowKit

def KRel (W : World) (N p : Nat) (F : Nat → Prop) (s : MS) (key : Nat) (rs0 : List (List Nat)) (run n : Value) (w : World) : Prop :=
  ∃ v vs rs b o c ks, run = .slice (some ⟨b, o, none⟩) ks.length c ∧ ks.length ≤ c ∧ c ≤ maxLen ∧ RunAt w b o ks ∧ W.heap.size ≤ b ∧ n = .int .i64 (rs.length : Nat) ∧ Mem w N p F s v vs rs ∧ Keep F W w ∧ (ks ++ rs.flatten).Perm (key :: rs0.flatten) ∧ rs.length ≤ rs0.length

def KeepPost (W : World) (N p : Nat) (F : Nat → Prop) (s : MS) (key : Nat) (rs0 : List (List Nat)) (e : Ending) (w' : World) : Prop :=
  e = .returned (.tuple #[]) ∧ ∃ F' v' vs' rs', Mem w' N p F' s v' vs' rs' ∧ Keep F W w' ∧ (∀ k, F' k → F k ∨ W.heap.size ≤ k) ∧ rs'.flatten.Perm (key :: rs0.flatten) ∧ rs'.length ≤ rs0.length + 1

theorem run_one {W : World} {key : Nat} (hk : key < 18446744073709551616) : RunAt (W.alloc (.cells #[.int .u64 (key : Nat)] 54)) W.heap.size 0 [key] := by
  refine ⟨by simp, by simpa using hk, by simp, by simp, fun i hi => ?_⟩
  obtain rfl : i = 0 := by simpa using hi
  simp

theorem krel_start {W : World} {N p : Nat} {F : Nat → Prop} {s : MS} {v : Value} {vs : List Value} {rs : List (List Nat)} {key : Nat} (h : Mem W N p F s v vs rs) (hk : key < 18446744073709551616) :
    KRel W N p F s key rs (.slice (some ⟨W.heap.size, 0, none⟩) 1 1) (.int .i64 (rs.length : Nat)) (W.alloc (.cells #[.int .u64 (key : Nat)] 54)) :=
  ⟨v, vs, rs, W.heap.size, 0, 1, [key], rfl, by simp, by unfold maxLen; omega, run_one hk, Nat.le_refl _, rfl, h.below ((Below.refl _ _).alloc (Nat.le_refl _) _), (Keep.refl _ _).alloc _, by simp, Nat.le_refl _⟩

theorem keep_end {W wr w1 : World} {N p : Nat} {F : Nat → Prop} {s : MS} {key : Nat} {rs0 rs : List (List Nat)} {v : Value} {vs : List Value} {b o c n g cap : Nat} {ks : List Nat} {ob : Obj}
    (h1 : ks.length ≤ c) (h2 : c ≤ maxLen) (h3 : RunAt wr b o ks) (h4 : W.heap.size ≤ b) (h5 : Mem wr N p F s v vs rs) (h6 : Keep F W wr) (h7 : (ks ++ rs.flatten).Perm (key :: rs0.flatten)) (h8 : rs.length ≤ rs0.length) (hF : ∀ k, F k → k < W.heap.size) (hN : N ≤ W.heap.size)
    (hn : n = rs.length) (hown : w1.ownsRow N 58 1 (.slice (some ⟨g, 0, none⟩) (n + 1) cap) (n + 1) (vs ++ [.slice (some ⟨b, o, none⟩) ks.length c])) (hgr : (wr.alloc ob).grownBy w1 v.ownBlock) (hat : v.ownBlock = some g ∨ g = (wr.alloc ob).heap.size) :
    KeepPost W N p F s key rs0 (.returned (.tuple #[])) (w1.setCell ⟨p, 7, none⟩ (.slice (some ⟨g, 0, none⟩) (n + 1) cap)) := by
  have hb : Below wr.heap.size wr (wr.alloc ob) := (Below.refl _ _).alloc (Nat.le_refl _) _
  have hbF : ¬ F b := fun f => by have := hF b f; omega
  have hm := Mem.pushed (h5.below hb) rfl h1 h2 (h3.carry hb.size (hb.block b h3.inb)) (fun e => hbF (e ▸ h5.inP)) (fun e => hbF (h5.inO b e)) (by omega) (by omega) hown hgr (or_map hat id (fun e => by omega))
  refine ⟨rfl, _, _, _, _, hm, (((h6.alloc ob).grown hgr (fun k e => Or.inl (h5.inO k e))).setCell (p := ⟨p, 7, none⟩) h5.inP _), ?_, ?_, by simp; omega⟩
  · rintro k (f | rfl | rfl)
    · exact Or.inl f
    · exact Or.inr h4
    · rcases hat with e | e
      · exact Or.inl (h5.inO k e)
      · have := h6.size; simp at e; omega
  · refine List.Perm.trans ?_ h7
    simp only [List.flatten_append, List.flatten_cons, List.flatten_nil, List.append_nil]
    exact List.perm_append_comm

/-- What the receiver's field and marks are behind the append. -/
theorem keep_cells {wr w1 : World} {N p : Nat} {F : Nat → Prop} {s : MS} {v : Value} {vs : List Value} {rs : List (List Nat)} {ob : Obj} (h5 : Mem wr N p F s v vs rs) (hgr : (wr.alloc ob).grownBy w1 v.ownBlock) :
    w1.cell? ⟨p, 7, none⟩ = some v ∧ w1.frozen? ⟨p, 7, none⟩ = false := by
  have hb : Below wr.heap.size wr (wr.alloc ob) := (Below.refl _ _).alloc (Nat.le_refl _) _
  have hm := h5.below hb
  have e := hgr.block p (hm.low p hm.inP).2 (fun e => hm.apart e.symm)
  exact ⟨(World.cell?_of_block (a := ⟨p, 7, none⟩) e).trans hm.cells.c7, (World.frozen?_of_block (a := ⟨p, 7, none⟩) e).trans (hm.cells.fz 7)⟩

theorem run_merged {wr w2 : World} {b1 o1 b o g2 c2 : Nat} {kr ks : List Nat} (h1 : RunAt wr b1 o1 kr) (h2 : RunAt wr b o ks)
    (ho : w2.ownsRow wr.heap.size 54 1 (.slice (some ⟨g2, 0, none⟩) (kr.length + ks.length) c2) (kr.length + ks.length) ((mergeN kr ks).map u64V)) :
    RunAt w2 g2 0 (mergeN kr ks) ∧ (mergeN kr ks).length ≤ c2 ∧ c2 ≤ maxLen ∧ wr.heap.size ≤ g2 := by
  have hlt := ho.lt g2 rfl
  refine ⟨⟨?_, ?_, mergeN_up h1.up h2.up, hlt.2, ?_⟩, ?_, ?_, hlt.1⟩
  · intro e
    have := mergeN_len kr ks
    rw [e] at this
    exact h1.ne (List.length_eq_zero_iff.1 (by simp at this; omega))
  · intro k hk
    rcases List.mem_append.1 ((mergeN_perm kr ks).mem_iff.1 hk) with h | h
    · exact h1.lt k h
    · exact h2.lt k h
  · intro i hi
    have hi' : i < kr.length + ks.length := by rw [← mergeN_len]; exact hi
    rw [Nat.zero_add, ho.cellAt i (by omega), List.getElem?_map, List.getElem?_eq_getElem hi]
    rfl
  all_goals
    rcases ho.2 with ⟨e, _⟩ | ⟨_, _, _, e, _, _, h3, h4, _⟩
    · cases e
    · simp only [Value.slice.injEq] at e
      obtain ⟨_, _, rfl⟩ := e
      first | (rw [mergeN_len]; exact h3) | exact h4

theorem krel_step {W wr w2 : World} {N p : Nat} {F : Nat → Prop} {s : MS} {key : Nat} {rs0 rs1 : List (List Nat)} {b o b1 o1 c1 g cap1 g2 c2 q m : Nat} {ks kr : List Nat} {vs1 : List Value} (hm : rs1.length = m)
    (h3 : RunAt wr b o ks) (h5 : Mem wr N p F s (.slice (some ⟨g, 0, none⟩) (m + 1) cap1) (vs1 ++ [.slice (some ⟨b1, o1, none⟩) kr.length c1]) (rs1 ++ [kr])) (h6 : Keep F W wr) (h7 : (ks ++ (rs1 ++ [kr]).flatten).Perm (key :: rs0.flatten)) (h8 : m + 1 ≤ rs0.length)
    (y3 : RunAt wr b1 o1 kr) (ho : w2.ownsRow wr.heap.size 54 1 (.slice (some ⟨g2, 0, none⟩) (kr.length + ks.length) c2) (kr.length + ks.length) ((mergeN kr ks).map u64V)) (hb : Below wr.heap.size wr w2) :
    KRel W N p F s key rs0 (.slice (some ⟨g2, 0, none⟩) (kr.length + ks.length) c2) (.int .i64 (m : Nat)) (((w2.drewN q).setCell ⟨g, m, none⟩ (.slice none 0 0)).setCell ⟨p, 7, none⟩ (.slice (some ⟨g, 0, none⟩) m cap1)) := by
  subst hm
  obtain ⟨r1, r2, r3, r4⟩ := run_merged y3 h3 ho
  have hg : F g := h5.inO g rfl
  have hgs := (h5.low g hg).2
  have hps := (h5.low p h5.inP).2
  have hk : Keep F wr (((w2.drewN q).setCell ⟨g, rs1.length, none⟩ (.slice none 0 0)).setCell ⟨p, 7, none⟩ (.slice (some ⟨g, 0, none⟩) rs1.length cap1)) :=
    (((Keep.ofBelow hb).drewN q).setCell (p := ⟨g, rs1.length, none⟩) hg _).setCell (p := ⟨p, 7, none⟩) h5.inP _
  have hbg : ((((w2.drewN q).setCell ⟨g, rs1.length, none⟩ (.slice none 0 0)).setCell ⟨p, 7, none⟩ (.slice (some ⟨g, 0, none⟩) rs1.length cap1))).heap[g2]? = w2.heap[g2]? :=
    (Below.heap_setCell _ _ _ _ (by show g2 ≠ p; omega)).trans (Below.heap_setCell _ _ _ _ (by show g2 ≠ g; omega))
  refine ⟨_, vs1, rs1, g2, 0, c2, mergeN kr ks, by rw [mergeN_len], r2, r3, r1.carry (by simp [World.setCell]) hbg, by have := h6.size; omega, rfl, Mem.popped (h5.below hb), h6.trans hk (fun _ _ f => f), ?_, by omega⟩
  refine List.Perm.trans ?_ h7
  simp only [List.flatten_append, List.flatten_cons, List.flatten_nil, List.append_nil]
  refine ((mergeN_perm kr ks).append_right _).trans ?_
  refine (List.perm_append_comm.append_right rs1.flatten).trans ?_
  rw [List.append_assoc]
  exact List.Perm.append_left _ List.perm_append_comm

theorem rest_of_run {w : World} {b o : Nat} {ks : List Nat} (h : RunAt w b o ks) : RestAt w b o ks := ⟨h.inb, h.cell⟩

set_option maxHeartbeats 2000000 in
theorem keep_any (W : World) (N p : Nat) (F : Nat → Prop) (s : MS) (v : Value) (vs : List Value) (rs : List (List Nat)) (key : Nat) (hM : Mem W N p F s v vs rs) (hk : key < 18446744073709551616) (hn : rs.length ≤ 100) (hl : rs.flatten.length ≤ 100) :
    Calls Try.prog 37 #[.pointer (some ⟨p, 0, none⟩), .int .u64 (key : Nat)] W (KeepPost W N p F s key rs) := by
  obtain ⟨i0, hi0, hz0, hz1, hz2⟩ := info_parts Try.infoR
  have HS := Lib.hid (krel_start hM hk)
  have hp : p < W.heap.size := (hM.low p hM.inP).2
  have k7 := hM.cells.c7
  obtain ⟨ao, cap, hv⟩ : ∃ ao cap, v = .slice ao rs.length cap := by
    rcases hM.shape with ⟨h1, a, c, h2⟩ | ⟨g, c, h, _⟩
    · exact ⟨a, c, by rw [h1, h2]; rfl⟩
    · exact ⟨_, c, h⟩
  rw [hv] at k7
  have HM := Lib.hid hM
  have HL := Lib.hid hl
  have hN : N ≤ W.heap.size := by have := (hM.low p hM.inP).1; omega
  have HN := Lib.hid hN
  clear hM hl hv
  go_enter Try.func37, Try.ntmps37
  go_wp2_with fail
  go_loopw [4, 5] (fun run n wr => KRel W N p F s key rs run n wr) (fun _ n _ => (intOf n).toNat)
  case atStart => exact HS.out
  case round =>
    obtain ⟨v, vs, rs', b, o, c, ks, rfl, h1, h2, h3, h4, rfl, h5, h6, h7, h8⟩ := hrel
    rcases List.eq_nil_or_concat rs' with rfl | ⟨rs1, kr, rfl⟩
    · obtain ⟨ao1, cap1, rfl⟩ : ∃ ao cap, v = .slice ao 0 cap := by
        rcases h5.shape with ⟨_, a, c, h⟩ | ⟨g, c, h, _⟩
        · exact ⟨a, c, h⟩
        · exact ⟨_, c, h⟩
      have k7' := h5.cells.c7
      have hp' := (h5.low p h5.inP).2
      have A3 := Lib.hid h3
      have A5 := Lib.hid h5
      have A6 := Lib.hid h6
      have A7 := Lib.hid h7
      clear h3 h5 h6 h7
      go_wp2_with (at_builtin; refine wpList_append_lies _ rfl (.tmp 59) (.tmp 61) 49 rfl N 58 i0 (.slice none 0 0) 1 24 Try.underlying49 hi0 hz0 hz1 hz2 rfl (by decide) _ 0 vs rfl (World.ownsRow.alloc A5.out.own _) ⟨wr.heap.size, 0, none⟩ 1 1 [.slice (some ⟨b, o, none⟩) ks.length c] rfl rfl (World.news_of_block (heap_alloc_new _ _)) (by simp [Value.oneCell']) (by omega) (by unfold maxLen; omega) (by omega) (by have := A6.out.size; simp; omega) _ rfl ?_
                   intro g2 cap2 w2 hown2 hgr2 hat2 hlt2
                   obtain ⟨q7, qf⟩ := keep_cells A5.out hgr2
                   have B1 := Lib.hid hown2
                   have B2 := Lib.hid hgr2
                   have B3 := Lib.hid hat2
                   clear hown2 hgr2 hat2)
      go_end0
      exact keep_end h1 h2 A3.out h4 A5.out A6.out A7.out h8 (fun k f => (HM.out.low k f).2) HN.out rfl B1.out B2.out B3.out
    · rw [List.concat_eq_append] at *
      obtain ⟨vs1, x, rfl, _, hx⟩ := h5.runs.unsnoc
      obtain ⟨b1, o1, c1, rfl, y1, y2, y3, y4, y5, y6⟩ := hx
      obtain ⟨g, cap1, rfl, z1, z2⟩ : ∃ g cap, v = .slice (some ⟨g, 0, none⟩) (rs1.length + 1) cap ∧ rs1.length + 1 ≤ cap ∧ cap ≤ maxLen := by
        rcases h5.shape with ⟨e, _⟩ | ⟨g, c, h, h', h''⟩
        · simp at e
        · exact ⟨g, c, by simpa using h, by simpa using h', h''⟩
      have k7' := h5.cells.c7
      have hp' := (h5.low p h5.inP).2
      have hown0 : wr.ownsRow N 58 1 (.slice (some ⟨g, 0, none⟩) (rs1.length + 1) cap1) (rs1.length + 1) (vs1 ++ [.slice (some ⟨b1, o1, none⟩) kr.length c1]) := by simpa using h5.own
      have hl1 : vs1.length = rs1.length := by have := hown0.1; simpa using this
      have kg : wr.cell? ⟨g, rs1.length, none⟩ = some (.slice (some ⟨b1, o1, none⟩) kr.length c1) := by
        rw [hown0.cellAt rs1.length (by omega), List.getElem?_append_right (by omega)]; simp [hl1]
      have kf := hown0.frozenAt rs1.length
      have htot : ks.length + (rs1.flatten.length + kr.length) ≤ 101 := by
        have := h7.length_eq
        have := HL.out
        simp at *
        omega
      have hm8 : rs1.length + 1 ≤ rs.length := by simpa using h8
      have e1 : ((rs1 ++ [kr]).length : Nat) = rs1.length + 1 := by simp
      rw [e1]
      generalize hm : rs1.length = m at *
      have t1 : (0 : Int) < (m : Int) + 1 := by omega
      have A3 := Lib.hid h3
      have A5 := Lib.hid h5
      have A6 := Lib.hid h6
      have A7 := Lib.hid h7
      have A8 := Lib.hid hm
      have A9 := Lib.hid hown0
      have Y3 := Lib.hid y3
      have Z2 := Lib.hid z2
      have L1 := Lib.hid hl1
      clear h3 h5 h6 h7 hm hown0 y3 y5 y6 z2 hl1 e1
      by_cases hlen : kr.length ≤ ks.length
      · go_wp2_with fail
        refine (merge_any kr ks b1 o1 c1 b o c wr (rest_of_run Y3.out) (rest_of_run A3.out) Y3.out.ne A3.out.ne y1 h1 y2 h2 (by omega)).mono ?_
        rintro e w2 ⟨g2, c2, rfl, ho2, hb2⟩
        have k72 := (hb2.cell (p := ⟨p, 7, none⟩) hp').trans k7'
        have hg' := (A5.out.low g (A5.out.inO g rfl)).2
        have kg2 := (hb2.cell (p := ⟨g, m, none⟩) hg').trans kg
        have kf2 := (hb2.frozen (p := ⟨g, m, none⟩) hg').trans kf
        have kp2 := (hb2.frozen (p := ⟨p, 7, none⟩) hp').trans (A5.out.cells.fz 7)
        have hgp : g ≠ p := fun e => A5.out.apart (by simp [Value.ownBlock, e])
        have B1 := Lib.hid ho2
        have B2 := Lib.hid hb2
        have B3 := Lib.hid hgp
        clear ho2 hb2 hgp k7' kg kf hg'
        go_wp2_with fail
        refine (delete_last g m cap1 w2 (by omega) z1 Z2.out (by rw [kg2]; rfl) kf2).mono ?_
        rintro e w3 ⟨q, rfl, rfl⟩
        have hpg : p ≠ g := Ne.symm B3.out
        have k73 : ((w2.drewN q).setCell ⟨g, m, none⟩ (.slice none 0 0)).cell? ⟨p, 7, none⟩ = some (.slice (some ⟨g, 0, none⟩) (m + 1) cap1) := (World.cell?_of_block (Below.heap_setCell _ _ _ _ hpg)).trans k72
        clear kg2 kf2
        have B4 := Lib.hid hpg
        clear hpg
        go_wp2_with fail
        go_roundw
        case rel => exact krel_step A8.out A3.out A5.out A6.out A7.out hm8 Y3.out B1.out B2.out
        case measure => simp [intOf]
      · have hd : decide (kr.length ≤ ks.length) = false := by simpa using hlen
        go_wp2_with (at_builtin; refine wpList_append_lies _ rfl (.tmp 59) (.tmp 61) 49 rfl N 58 i0 (.slice none 0 0) 1 24 Try.underlying49 hi0 hz0 hz1 hz2 rfl (by decide) _ (m + 1) _ rfl (World.ownsRow.alloc A9.out _) ⟨wr.heap.size, 0, none⟩ 1 1 [.slice (some ⟨b, o, none⟩) ks.length c] rfl rfl (World.news_of_block (heap_alloc_new _ _)) (by simp [Value.oneCell']) (by omega) (by unfold maxLen; omega) (by omega) (by have := A6.out.size; simp; omega) _ rfl ?_
                     intro g2 cap2 w2 hown2 hgr2 hat2 hlt2
                     obtain ⟨q7, qf⟩ := keep_cells A5.out hgr2
                     have B1 := Lib.hid hown2
                     have B2 := Lib.hid hgr2
                     have B3 := Lib.hid hat2
                     clear hown2 hgr2 hat2)
        go_end0
        exact keep_end h1 h2 A3.out h4 A5.out A6.out A7.out h8 (fun k f => (HM.out.low k f).2) HN.out (by simp [A8.out]) B1.out B2.out B3.out

end Go.Proofs.Ytlbbbabieepabaa
