/-
  Texts of this claim, put together.
-/
import Derived.Test.YtbmpeadoicjpnaaMaf
import Derived.Test.YtbmpeadoicjpnaaWregm

/-
  trim.copied: a log alike in new memory.
-/
namespace Go.Proofs.Ytbmpeadoicjpnaa
open Go.RowKit Go.Sort

theorem Try.infoT : (Try.prog.info? 26).map (fun i => (i.zero, i.size, i.bytes)) = some (some (.agg #[.int .i64 0, .int .u64 0, .int .u64 0]), 3, 24) := by kernel_rfl

theorem OwnLg.put {T : TypeId} {B : Nat} {w : World} {s : Value} {l : List Le} (h : OwnLg T B w s l) {r : Nat} (hr : r < B) (i : Nat) (v : Value) : OwnLg T B (w.setCell ⟨r, i, none⟩ v) s l :=
  h.keep ((Keep.refl (fun k => k = r) w).put i v) (fun k h1 _ => by omega)
/-- A log of one's own, given. -/
def GPost (W : World) (l : List Le) (n : Nat) (e : Ending) (w' : World) : Prop :=
  ∃ a c, e = .returned (gV a n c) ∧ OwnLg 26 W.heap.size w' (.slice a n c) l ∧ l.length = n ∧ Below W.heap.size W w'
/-- Laid into a block that lies below the row. -/
theorem put_at {W w : World} {r n B : Nat} {V : Nat → Value} {l : List Le} {a : Option Addr} {c : Nat} (C : Cel 1 w r V) (hb : Below W.heap.size W w) (hr : W.heap.size ≤ r) (hB : r < B) (O : OwnLg 26 B w (.slice a n c) l) :
    (w.cell? ⟨r, 0, none⟩ = some (V 0) ∧ w.frozen? ⟨r, 0, none⟩ = false) ∧ (w.setCell ⟨r, 0, none⟩ (.slice a n c)).cell? ⟨r, 0, none⟩ = some (.slice a n c) ∧ OwnLg 26 B (w.setCell ⟨r, 0, none⟩ (.slice a n c)) (.slice a n c) l ∧ Below W.heap.size W (w.setCell ⟨r, 0, none⟩ (.slice a n c)) := by
  have C3 := C.put 0 (.slice a n c)
  exact ⟨⟨C.c 0 (by decide), C.fz 0⟩, C3.c 0 (by decide), O.put hB 0 _, hb.setCell (by exact hr) _⟩
/-- Laid into the result's block. -/
theorem put_res {W U w : World} {r n : Nat} {V : Nat → Value} {l : List Le} {a : Option Addr} {c : Nat} (C : Cel 1 U r V) (hWU : Below W.heap.size W U) (hr : W.heap.size ≤ r) (hb : Below U.heap.size U w) (O : OwnLg 26 U.heap.size w (.slice a n c) l) :
    (w.cell? ⟨r, 0, none⟩ = some (V 0) ∧ w.frozen? ⟨r, 0, none⟩ = false) ∧ (w.setCell ⟨r, 0, none⟩ (.slice a n c)).cell? ⟨r, 0, none⟩ = some (.slice a n c) ∧ OwnLg 26 U.heap.size (w.setCell ⟨r, 0, none⟩ (.slice a n c)) (.slice a n c) l ∧ Below W.heap.size W (w.setCell ⟨r, 0, none⟩ (.slice a n c)) :=
  put_at (C.below hb) (hWU.trans (hb.mono hWU.size)) hr C.lt O

set_option maxRecDepth 20000 in
set_option maxHeartbeats 2000000 in
theorem tclone_any {A : Nat → Prop} {W : World} {a : Option Addr} {cap n : Nat} {l : List Le} (h : LgAt A W a cap n l) (hl : n ≤ 1000000) :
    Calls Try.prog 54 #[.slice a n cap] W fun e w' => ∃ a' cap', e = .returned (.slice a' n cap') ∧ OwnLg 26 W.heap.size w' (.slice a' n cap') l ∧ Below W.heap.size W w' := by
  obtain ⟨i0, hi0, hz0, hz1, hz2⟩ := info_x Try.infoT
  have hn := h.len
  cases a with
  | none =>
    obtain ⟨rfl, rfl⟩ := h.row.empty rfl
    obtain rfl : l = [] := List.length_eq_zero_iff.1 hn
    clear h hl hn
    have he : ∀ w : World, (binOp .eql 27 (.slice none 0 0) (.slice none 0 0)).run Try.prog w = .ok (.bool true) w := fun _ => rfl
    go_enter Try.func54, Try.ntmps54
    go_wp2_with fail
    go_ret
    exact ⟨none, 0, rfl, OwnLg.nil _, Below.refl _ _⟩
  | some ad =>
    have S := Lib.hid h
    clear h
    have X := Lib.hid hn
    clear hn
    have he : ∀ w : World, (binOp .eql 27 (.slice (some ad) n cap) (.slice none 0 0)).run Try.prog w = .ok (.bool false) w := fun _ => rfl
    have O := Lib.hid (World.ownsRow_lit (base := W.heap.size) (e := 26) (size := 3) W #[] 0 (Nat.le_refl _) (by unfold maxLen; omega) rfl)
    have NW := Lib.hid (fun (w : World) (hb : Below W.heap.size W w) => (S.out.row.below hb).news)
    go_enter Try.func54, Try.ntmps54
    go_wp2_with (at_builtin; refine wpList_append_at rfl (.tmp 5) (.tmp 6) 27 rfl W.heap.size 26 i0 (.agg #[.int .i64 0, .int .u64 0, .int .u64 0]) 3 24 Try.underlying27 hi0 hz0 hz1 hz2 rfl (by decide) _ _ _ rfl O.out _ _ _ (lgC l) rfl (by rw [lgC_len, X.out]) (fun e => by cases e) (NW.out _ ((Below.refl _ _).alloc (Nat.le_refl _) _)) (lgC_one l) (by unfold maxLen; omega) (by omega) (by simp) ?_
                 intro v2 w2 hown2 hgr2 hat2
                 have hb2 : Below W.heap.size W w2 := ((Below.refl _ _).alloc (Nat.le_refl _) _).grown hgr2 (by simp) (fun k h => (O.out.lt k h).1)
                 try rw [Nat.zero_add, List.nil_append] at hown2
                 obtain ⟨a2, cap2, rfl⟩ := own_form hown2
                 have R := Lib.hid (And.intro (show OwnLg 26 W.heap.size w2 (.slice a2 n cap2) l from ⟨by rw [X.out]; exact hown2, S.out.ok⟩) hb2)
                 clear hown2 hgr2 hb2 hat2)
    go_ret
    exact ⟨a2, cap2, rfl, R.out.1, R.out.2⟩

set_option maxRecDepth 20000 in
set_option maxHeartbeats 2000000 in
theorem copied_any {A : Nat → Prop} {W : World} {a : Option Addr} {cap n : Nat} {l : List Le} (h : LgAt A W a cap n l) (hl : n ≤ 1000000) :
    Calls Try.prog 31 #[gV a n cap] W (GPost W l n) := by
  obtain ⟨U, hU⟩ : ∃ U, U = (W.alloc (.cells #[.slice a n cap] 29)).alloc (.cells #[.slice none 0 0] 29) := ⟨_, rfl⟩
  have C1 : Cel 1 U W.heap.size (gcE a n cap) := by rw [hU]; exact (boxG W a n cap _).below (boxb _ _)
  have C2 : Cel 1 U (W.heap.size + 1) (gcE none 0 0) := by
    have := boxG (W.alloc (.cells #[.slice a n cap] 29)) none 0 0 29
    rw [← hU, show (W.alloc (.cells #[.slice a n cap] 29)).heap.size = W.heap.size + 1 by simp] at this
    exact this
  have HB := Lib.hid (show Below W.heap.size W U from by rw [hU]; exact below_alloc (boxb W _) _)
  have c0 : U.cell? ⟨W.heap.size, 0, none⟩ = some (.slice a n cap) := C1.c 0 (by decide)
  have CC := Lib.hid (tclone_any (h.below HB.out) hl)
  have HN := Lib.hid h.len
  have X2 := Lib.hid C2
  have HU := Lib.hid hU.symm
  clear hU C1 C2 h
  go_enter Try.func31, Try.ntmps31
  go_upto_region 1 with fail
  rw [HU.out]
  go_wp2_with fail
  refine CC.out.mono ?_
  rintro e w1 ⟨a2, c2, rfl, hO, hb⟩
  obtain ⟨⟨x1, x2⟩, x3, x4, x5⟩ := put_res X2.out HB.out (Nat.le_succ _) hb hO
  have R := Lib.hid (And.intro x4 x5)
  clear x4 x5 hO hb
  go_wp2_with fail
  refine bodyPost_ret (v := gV a2 n c2) (by simp [results, Try.results31, go_sem, x3]) rfl ?_
  exact ⟨a2, c2, rfl, R.out.1.mono HB.out.size, HN.out, R.out.2⟩

end Go.Proofs.Ytbmpeadoicjpnaa

/-
  trim.But, trim.Less.
-/
namespace Go.Proofs.Ytbmpeadoicjpnaa
open Go.RowKit Go.Sort

/-- An entry's To is written. -/
theorem OwnLg.setTo {T : TypeId} {B : Nat} {w : World} {a : Option Addr} {n cap : Nat} {l : List Le} (h : OwnLg T B w (.slice a n cap) l) (hn : l.length = n) {k : Nat} (hk : k < n) {t : Nat} (ht : t < 18446744073709551616) :
    ∃ g, a = some ⟨g, 0, none⟩ ∧ B ≤ g ∧ g < w.heap.size ∧ w.cell? ⟨g, k * 3 + 2, none⟩ = some (.int .u64 ((l.getD k default).t : Int)) ∧ w.frozen? ⟨g, k * 3 + 2, none⟩ = false ∧
      OwnLg T B (w.setCell ⟨g, k * 3 + 2, none⟩ (.int .u64 (t : Int))) (.slice (some ⟨g, 0, none⟩) n cap) (l.set k ⟨(l.getD k default).f, (l.getD k default).n, t⟩) ∧ Keep (fun k => k = g) w (w.setCell ⟨g, k * 3 + 2, none⟩ (.int .u64 (t : Int))) := by
  subst hn
  have e : l.getD k default = l[k] := by rw [List.getD, List.getElem?_eq_getElem hk]; rfl
  have ho := h.own
  have hl := ho.lt
  rcases ho.2 with ⟨e0, h0⟩ | ⟨g, c2, cur, e0, hb, hg, -⟩
  · exact absurd h0 (by omega)
  · simp only [Value.slice.injEq, true_and] at e0
    obtain ⟨rfl, rfl⟩ := e0
    have hc := ho.cellAt (k * 3 + 2) (by omega)
    rw [(lgC_at k l hk).2.2] at hc
    have hs := (ho.stored (k * 3 + 2) (.int .u64 (t : Int))).1
    rw [lgC_set l hk t] at hs
    refine ⟨g, rfl, hb, (hl g rfl).2, by rw [e]; exact hc, ho.frozenAt _, ⟨by rw [List.length_set, e]; exact hs, fun x hx => ?_⟩, (Keep.refl _ _).put _ _⟩
    rcases List.mem_or_eq_of_mem_set hx with hx | rfl
    · exact h.ok x hx
    · rw [e]
      exact ⟨(h.ok _ (List.getElem_mem hk)).1, (h.ok _ (List.getElem_mem hk)).2.1, ht⟩

theorem but_nd (t to : Nat) (ht : t < 18446744073709551616) (hto : to < 18446744073709551616) : bits .andNot .u64 (t : Int) (to : Int) = ((butN64 t to : Nat) : Int) := u64_andNot_nat t to ht hto
theorem toD_bit (to : Nat) (d : Int) (hto : to < 18446744073709551616) : butN64 to (bitN d) = toD to d := by
  unfold toD bitN
  by_cases h : 0 ≤ d ∧ d < 64
  · rw [if_pos h, if_pos (by omega)]
  · rw [if_neg h, if_neg (by omega)]
    unfold butN64
    rw [Nat.sub_zero, show (18446744073709551615 : Nat) = 2 ^ 64 - 1 by decide, Nat.and_two_pow_sub_one_eq_mod]
    exact Nat.mod_eq_of_lt hto
theorem toD_lt (to : Nat) (d : Int) (hto : to < 18446744073709551616) : toD to d < 18446744073709551616 := by
  rw [← toD_bit to d hto]
  exact Nat.lt_of_le_of_lt (butN_le _ _) hto
theorem map_set_step {l : List Le} {k m : Nat} (hk : k < l.length) : ((l.take k).map (setX · m) ++ l.drop k).set k ⟨(l.getD k default).f, (l.getD k default).n, butN64 (l.getD k default).t m⟩ = (l.take (k + 1)).map (setX · m) ++ l.drop (k + 1) := by
  have e : l.getD k default = l[k] := by rw [List.getD, List.getElem?_eq_getElem hk]; rfl
  rw [e, List.set_append_right _ _ (by rw [List.length_map, List.length_take]; omega), List.length_map, List.length_take, Nat.min_eq_left (by omega), Nat.sub_self, List.drop_eq_getElem_cons hk, List.set_cons_zero, but_take hk, List.append_assoc]
  rfl
theorem map_at {l : List Le} {k m : Nat} (hk : k < l.length) : ((l.take k).map (setX · m) ++ l.drop k).getD k default = l.getD k default := by
  rw [List.getD, List.getD, List.getElem?_append_right (by rw [List.length_map, List.length_take]; omega), List.length_map, List.length_take, Nat.min_eq_left (by omega), Nat.sub_self, List.getElem?_drop, Nat.add_zero]

set_option maxRecDepth 20000 in
set_option maxHeartbeats 8000000 in
theorem but_any {A : Nat → Prop} {W : World} {a : Option Addr} {cap n : Nat} {l : List Le} (h : LgAt A W a cap n l) (hl : n ≤ 1000000) {to : Nat} (hto : to < 18446744073709551616) {d : Int} (hd : IntOk d) :
    Calls Try.prog 12 #[gV a n cap, .int .u64 (to : Int), .int .i64 d] W (GPost W (butL l to d) n) := by
  obtain ⟨U, hU⟩ : ∃ U, U = (W.alloc (.cells #[.slice a n cap] 29)).alloc (.cells #[.slice none 0 0] 29) := ⟨_, rfl⟩
  have C1 : Cel 1 U W.heap.size (gcE a n cap) := by rw [hU]; exact (boxG W a n cap _).below (boxb _ _)
  have C2 : Cel 1 U (W.heap.size + 1) (gcE none 0 0) := by
    have := boxG (W.alloc (.cells #[.slice a n cap] 29)) none 0 0 29
    rw [← hU, show (W.alloc (.cells #[.slice a n cap] 29)).heap.size = W.heap.size + 1 by simp] at this
    exact this
  have HB := Lib.hid (show Below W.heap.size W U from by rw [hU]; exact below_alloc (boxb W _) _)
  have c0 : U.cell? ⟨W.heap.size, 0, none⟩ = some (.slice a n cap) := C1.c 0 (by decide)
  have CC := Lib.hid (copied_any (h.below HB.out) hl)
  have HN := Lib.hid h.len
  have X1 := Lib.hid C1
  have X2 := Lib.hid C2
  have HU := Lib.hid hU.symm
  have HD := Lib.hid hd
  clear hU C1 C2 h
  go_enter Try.func12, Try.ntmps12
  go_upto_region 1 with fail
  rw [HU.out]
  go_wp2_with fail
  refine CC.out.mono ?_
  rintro e w1 ⟨a2, c2, rfl, hO, -, hb⟩
  obtain ⟨⟨x1, x2⟩, x3, x4, x5⟩ := put_res X1.out HB.out (Nat.le_refl _) hb hO
  have R := Lib.hid (And.intro x4 x5)
  have T := Lib.hid ((X2.out.below hb).keep ((Keep.refl (fun k => k = W.heap.size) w1).put 0 (.slice a2 n c2)) (by omega))
  have T1 := Lib.hid (((X1.out.below hb).put 0 (.slice a2 n c2)))
  clear x4 x5 hO hb c0
  go_wp2_with fail
  generalize w1.setCell ⟨W.heap.size, 0, none⟩ (.slice a2 n c2) = w2 at *
  have g2 : w2.cell? ⟨W.heap.size, 0, none⟩ = some (.slice a2 n c2) := x3
  refine (tgood_any (R.out.1.at HN.out) rfl).mono ?_
  rintro e w3 ⟨rfl, hb⟩
  have O3 := Lib.hid (R.out.1.below hb)
  have B3 := Lib.hid (R.out.2.trans (hb.mono R.out.2.size))
  have T3 := Lib.hid (T.out.below hb)
  have G3 := Lib.hid ((T1.out.below hb).conv (V2 := gcE a2 n c2) (fun o ho => by rcases (show o = 0 by omega) with rfl; rfl))
  have g3 : w3.cell? ⟨W.heap.size, 0, none⟩ = some (.slice a2 n c2) := G3.out.c 0 (by decide)
  clear x1 x2 x3 g2 R T T1 hb CC HU
  cases hg : goodL l
  · have BL : butL l to d = l := by unfold butL; rw [hg]; rfl
    have HL := Lib.hid BL
    obtain ⟨⟨x1, x2⟩, x3, x4, x5⟩ := put_at T3.out B3.out (Nat.le_succ _) (by have := X2.out.lt; omega) O3.out
    have R := Lib.hid (And.intro x4 x5)
    clear x4 x5 BL hg
    go_wp2_with fail
    refine bodyPost_ret (v := gV a2 n c2) (by simp [results, Try.results12, go_sem, x3]) rfl ?_
    rw [HL.out]
    exact ⟨a2, c2, rfl, R.out.1.mono HB.out.size, HN.out, R.out.2⟩
  · have BL : butL l to d = l.map (setX · (toD to d)) := by unfold butL; rw [hg]; rfl
    have HL := Lib.hid BL
    have hm := toD_lt to d hto
    have e1 := but_nd to (bitN d) hto (bitN_lt d)
    rw [toD_bit to d hto] at e1
    generalize toD to d = m at *
    have HM := Lib.hid hm
    clear hg BL hm
    go_wp2_with fail
    clear g3
    go_loopw [17] (fun i wr => ∃ k : Nat, k ≤ n ∧ i = .int .i64 (k : Nat) ∧ OwnLg 26 U.heap.size wr (.slice a2 n c2) ((l.take k).map (setX · m) ++ l.drop k) ∧ Cel 1 wr W.heap.size (gcE a2 n c2) ∧ Cel 1 wr (W.heap.size + 1) (gcE none 0 0) ∧ Below W.heap.size W wr) (fun i _ => n - (intOf i).toNat)
    case atStart => exact ⟨0, Nat.zero_le _, rfl, O3.out, G3.out, T3.out, B3.out⟩
    case round =>
      obtain ⟨k, hk, rfl, hO, hG, hT, hb⟩ := hrel
      have B := Lib.hid hb
      have G := Lib.hid hG
      have TT := Lib.hid hT
      have O := Lib.hid hO
      clear O3 B3 T3 G3 hb hG hT
      by_cases hlt : k < n
      · have hkl : k < l.length := by rw [HN.out]; exact hlt
        have hlen : ((l.take k).map (setX · m) ++ l.drop k).length = n := by rw [List.length_append, List.length_map, List.length_take, List.length_drop, HN.out]; omega
        have MA := map_at (m := m) hkl
        have OK := O.out.ok (((l.take k).map (setX · m) ++ l.drop k).getD k default) (by rw [List.getD, List.getElem?_eq_getElem (by omega)]; exact List.getElem_mem _)
        have MS := Lib.hid (map_set_step (m := m) hkl)
        rw [MA] at OK
        have ht := OK.2.2
        have hbt := Nat.lt_of_le_of_lt (butN_le (l.getD k default).t m) ht
        obtain ⟨g, rfl, hUg, hgl, x1, -, -, -⟩ := hO.setTo hlen hlt hbt
        obtain ⟨V, hV⟩ : ∃ V, V = (wr.alloc (.cells #[.int .i64 d] 3)).drew := ⟨_, rfl⟩
        have bV : Below wr.heap.size wr V := by rw [hV]; exact (boxb wr _).trans ((drew_below _).mono (by simp))
        obtain ⟨g', eg, -, -, y1, y2, y3, y4⟩ := (hO.below bV).setTo hlen hlt hbt
        cases eg
        rw [MA] at x1 y1 y3
        have VO : Calls Try.prog 28 #[.slice (some ⟨wr.heap.size, 0, none⟩) 1 1] V fun e w' => e = .returned (.int .u64 (bitN d : Nat)) ∧ V = w' := by rw [hV]; exact of_one d wr.drew HD.out
        have e2 := but_nd (l.getD k default).t m ht HM.out
        generalize bitN d = bd at *
        rw [MS.out] at y3
        clear MS
        generalize (l.getD k default).t = xt at *
        generalize butN64 xt m = nt at *
        have i0 : (0 : Int) ≤ (k : Int) := by omega
        have i1 : (k : Int) < (n : Int) := by omega
        have z1 : wr.drew.cell? ⟨W.heap.size, 0, none⟩ = some (.slice (some ⟨g, 0, none⟩) n c2) := G.out.c 0 (by decide)
        have z2 : wr.drew.cell? ⟨g, k * 3 + 2, none⟩ = some (.int .u64 (xt : Int)) := x1
        have z3 : V.cell? ⟨W.heap.size, 0, none⟩ = some (.slice (some ⟨g, 0, none⟩) n c2) := (G.out.below bV).c 0 (by decide)
        have z5 : (wr.alloc (.cells #[.int .i64 d] 3)).drew.cell? ⟨W.heap.size, 0, none⟩ = some (.slice (some ⟨g, 0, none⟩) n c2) := by rw [← hV]; exact z3
        have z6 : (wr.alloc (.cells #[.int .i64 d] 3)).drew.cell? ⟨g, k * 3 + 2, none⟩ = some (.int .u64 (xt : Int)) := by rw [← hV]; exact y1
        have z7 : (wr.alloc (.cells #[.int .i64 d] 3)).drew.frozen? ⟨g, k * 3 + 2, none⟩ = false := by rw [← hV]; exact y2
        have VV := Lib.hid (show Below W.heap.size W (V.setCell ⟨g, k * 3 + 2, none⟩ (.int .u64 (nt : Int))) from (B.out.trans (bV.mono B.out.size)).setCell (by have := HB.out.size; exact Nat.le_trans this hUg) _)
        have VG := Lib.hid ((G.out.below bV).keep y4 (by have := X1.out.lt; omega))
        have VT := Lib.hid ((TT.out.below bV).keep y4 (by have := X2.out.lt; omega))
        have VR := Lib.hid y3
        have HV := Lib.hid hV.symm
        have VOH := Lib.hid VO
        clear x1 y3 y4 VO MA OK ht hbt bV hV hO hlen
        go_upto_region 7 with fail
        go_region_law (first | (go_simp; rw [HV.out]; go_at_call 28; refine VOH.out.mono ?_; rintro e w' ⟨rfl, rfl⟩))
        all_goals
          go_wp2_with fail
          go_roundw
          case rel => exact ⟨k + 1, by omega, by go_num, VR.out, VG.out, VT.out, VV.out⟩
          case measure => simp only [intOf]; omega
      · obtain rfl : k = n := by omega
        have dk : decide ((k : Int) < (k : Int)) = false := decide_eq_false (by omega)
        have hO2 := O.out
        rw [List.take_of_length_le (by rw [HN.out]; exact Nat.le_refl _), List.drop_eq_nil_of_le (by rw [HN.out]; exact Nat.le_refl _), List.append_nil] at hO2
        have z1 : wr.cell? ⟨W.heap.size, 0, none⟩ = some (.slice a2 k c2) := G.out.c 0 (by decide)
        obtain ⟨⟨x1, x2⟩, x3, x4, x5⟩ := put_at TT.out B.out (Nat.le_succ _) (by have := X2.out.lt; omega) hO2
        have R := Lib.hid (And.intro x4 x5)
        clear x4 x5 hO hO2
        go_wp2_with fail
        refine bodyPost_ret (v := gV a2 k c2) (by simp [results, Try.results12, go_sem, x3]) rfl ?_
        rw [HL.out]
        exact ⟨a2, c2, rfl, R.out.1.mono HB.out.size, by rw [List.length_map]; exact HN.out, R.out.2⟩

set_option maxRecDepth 20000 in
set_option maxHeartbeats 8000000 in
theorem less_any {A : Nat → Prop} {W : World} {a : Option Addr} {cap n : Nat} {l : List Le} (h : LgAt A W a cap n l) (hl : n ≤ 1000000) {to : Nat} (hto : to < 18446744073709551616) :
    Calls Try.prog 10 #[gV a n cap, .int .u64 (to : Int)] W (GPost W (butL l to (-1)) n) := by
  obtain ⟨U, hU⟩ : ∃ U, U = (W.alloc (.cells #[.slice a n cap] 29)).alloc (.cells #[.slice none 0 0] 29) := ⟨_, rfl⟩
  have C1 : Cel 1 U W.heap.size (gcE a n cap) := by rw [hU]; exact (boxG W a n cap _).below (boxb _ _)
  have C2 : Cel 1 U (W.heap.size + 1) (gcE none 0 0) := by
    have := boxG (W.alloc (.cells #[.slice a n cap] 29)) none 0 0 29
    rw [← hU, show (W.alloc (.cells #[.slice a n cap] 29)).heap.size = W.heap.size + 1 by simp] at this
    exact this
  have HB := Lib.hid (show Below W.heap.size W U from by rw [hU]; exact below_alloc (boxb W _) _)
  have c0 : U.cell? ⟨W.heap.size, 0, none⟩ = some (.slice a n cap) := C1.c 0 (by decide)
  have CC := Lib.hid (but_any (h.below HB.out) hl hto (d := -1) (by unfold IntOk; omega))
  have X2 := Lib.hid C2
  have HU := Lib.hid hU.symm
  clear hU C1 C2 h
  go_enter Try.func10, Try.ntmps10
  go_upto_region 1 with fail
  rw [HU.out]
  go_wp2_with fail
  refine CC.out.mono ?_
  rintro e w1 ⟨a2, c2, rfl, hO, hn, hb⟩
  have HN := Lib.hid hn
  obtain ⟨⟨x1, x2⟩, x3, x4, x5⟩ := put_res X2.out HB.out (Nat.le_succ _) hb hO
  have R := Lib.hid (And.intro x4 x5)
  clear x4 x5 hO hb hn
  go_wp2_with fail
  refine bodyPost_ret (v := gV a2 n c2) (by simp [results, Try.results10, go_sem, x3]) rfl ?_
  exact ⟨a2, c2, rfl, R.out.1.mono HB.out.size, HN.out, R.out.2⟩

end Go.Proofs.Ytbmpeadoicjpnaa
