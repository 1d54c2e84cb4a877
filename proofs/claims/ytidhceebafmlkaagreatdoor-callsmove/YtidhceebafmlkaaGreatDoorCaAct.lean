import Derived.Test.YtidhceebafmlkaaGreatDoorPtFind
import Derived.Test.YtidhceebafmlkaaGreatDoorCaPlain
import Derived.Test.YtidhceebafmlkaaGreatDoorCaStore
import Derived.Test.YtidhceebafmlkaaGreatDoorTrStatW
import Derived.BigRegion
import Derived.Laws.ResultCell
namespace Go.Proofs.YtidhceebafmlkaaGreatDoor.Ca
open Go.RowKit Cu Tr Pm Pt
def Part (s : ByteArray) : Prop := 1 ≤ s.size ∧ hasB s 0 = false ∧ hasB s 47 = false
theorem part_tx {c : Bs} (h : c ≠ []) (hc : ∀ x ∈ c, x ≠ 0 ∧ x ≠ 47) : Part (tx c) := by
  refine ⟨?_, ?_, ?_⟩
  · have : (tx c).size = c.length := by simp [tx, ByteArray.size]
    rw [this]
    exact List.length_pos_iff.2 h
  · unfold hasB; rw [bs_tx]; exact decide_eq_false fun q => (hc _ q).1 rfl
  · unfold hasB; rw [bs_tx]; exact decide_eq_false fun q => (hc _ q).2 rfl
theorem prt_part : ∀ (s c : Bs), (∀ x ∈ c, x ≠ 0 ∧ x ≠ 47) → (∀ x ∈ s, x ≠ 0) → ∀ p ∈ prt c s, Part p
  | [], c, hc, _, p, hp => by
    unfold prt at hp
    split at hp
    · cases hp
    · simp at hp; subst hp; exact part_tx ‹_› hc
  | x :: s, c, hc, hs, p, hp => by
    have hs' : ∀ y ∈ s, y ≠ 0 := fun y hy => hs y (List.mem_cons_of_mem _ hy)
    unfold prt at hp
    split at hp
    · split at hp
      · exact prt_part s [] (by simp) hs' p hp
      · rcases List.mem_cons.1 hp with rfl | hp
        · exact part_tx ‹_› hc
        · exact prt_part s [] (by simp) hs' p hp
    · rename_i hx
      refine prt_part s (c ++ [x]) (fun y hy => ?_) hs' p hp
      rcases List.mem_append.1 hy with hy | hy
      · exact hc y hy
      · simp at hy; subst hy; exact ⟨hs y (List.mem_cons_self ..), hx⟩
theorem parts_part {s : ByteArray} (h : hasB s 0 = false) : ∀ p ∈ partsP s, Part p :=
  prt_part (bs s) [] (by simp) fun x hx e => by
    subst e
    unfold hasB at h
    exact of_decide_eq_false h hx
structure Okp (ns : List Nd) (p : Pl) : Prop where
  dir : ∃ d : Nat, p.dir = (d : Int) ∧ Dr ns d
  what : (p.name = ⟨#[]⟩ ∧ p.node = p.dir) ∨ (nameP p.name = true ∧ p.node = findP (nd ns p.dir.toNat).list p.name)
theorem Okp.node {now : Int} {ns : List Nd} {p : Pl} (hc : checkP now ns = true) (h : Okp ns p) : ∃ m : Nat, p.node = (m : Int) ∧ m < ns.length ∧ (m = 0 ∨ (nd ns m).kind ≠ 0) := by
  obtain ⟨d, hd, hdr⟩ := h.dir
  rcases h.what with ⟨_, h2⟩ | ⟨_, h2⟩
  · exact ⟨d, h2.trans hd, hdr.2.1, .inr (by rw [hdr.2.2]; decide)⟩
  · rw [hd, Int.toNat_natCast] at h2
    rcases dr_find hc hdr p.name with h5 | ⟨m, h5, hm1, hmn, hk⟩
    · have := (checkP_parts hc).1
      exact ⟨0, h2.trans h5, by omega, .inl rfl⟩
    · refine ⟨m, h2.trans h5, hmn, .inr ?_⟩
      rcases hk with hk | hk | ⟨hk, _⟩ <;> rw [hk] <;> decide
theorem okp_named {now : Int} {ns : List Nd} {d : Nat} (_hc : checkP now ns = true) (hd : Dr ns d) {s : ByteArray} (hp : Part s) (h64 : s.size ≤ 64) (h3 : dotsP s = false) (m : Int) (hm : m = findP (nd ns d).list s) (b : Bool) : Okp ns ⟨d, s, m, b⟩ := by
  refine ⟨⟨d, rfl, hd⟩, .inr ⟨?_, by simpa using hm⟩⟩
  unfold dotsP at h3
  simp only [Bool.or_eq_false_iff, decide_eq_false_iff_not] at h3
  simp [nameP, hp.1, h64, h3.1, h3.2, hp.2.1, hp.2.2]
theorem take_find {ns : List Nd} {e : Ev} {d : Nat} {s : ByteArray} {m : Int} (h : takeP ns e d s = (m, 0)) (h3 : dotsP s = false) : s.size ≤ 64 ∧ m = findP (nd ns d).list s := by
  unfold dotsP at h3
  simp only [Bool.or_eq_false_iff, decide_eq_false_iff_not] at h3
  unfold takeP at h
  split at h
  · injection h with _ h; cases h
  split at h
  · injection h with _ h; cases h
  rw [if_neg h3.1, if_neg h3.2] at h
  injection h with h
  exact ⟨by omega, h.symm⟩
theorem bad_no {k : Int} (hk : k ≠ 0) {P : Prop} (h : (bad k).2 = 0) : P := absurd h hk
theorem goP_ok {now : Int} {ns : List Nd} {e : Ev} {f : Bool} {next : Nat → List ByteArray → Bool → Pl × Int} (hc : checkP now ns = true) (hnext : ∀ d l b, Dr ns d → (∀ p ∈ l, Part p) → (next d l b).2 = 0 → Okp ns (next d l b).1) (dirs : Bool) : ∀ (l : List ByteArray) (d : Nat), Dr ns d → (∀ p ∈ l, Part p) → (goP ns e f next dirs d l).2 = 0 → Okp ns (goP ns e f next dirs d l).1
  | [], d, hd, _, _ => ⟨⟨d, rfl, hd⟩, .inl ⟨rfl, rfl⟩⟩
  | s :: l, d, hd, hl, h => by
    have hs := hl s (List.mem_cons_self ..)
    have hl' : ∀ p ∈ l, Part p := fun p hp => hl p (List.mem_cons_of_mem _ hp)
    rcases goP_cases (e := e) (follow := f) (next := next) (dirs := dirs) (s := s) (l := l) hc hd with ⟨k, hk, _, hg⟩ | ⟨x, _, hx, _, hg⟩ | ⟨ht, h3, hg⟩ | ⟨m, ht, hm, h3, hk⟩
    · rw [hg] at h
      exact bad_no (by omega) h
    · rw [hg] at h ⊢
      exact goP_ok hc hnext dirs l x hx hl' h
    · obtain ⟨h64, hf⟩ := take_find ht h3
      rw [hg] at h ⊢
      split at h
      · rw [if_pos ‹_›]; exact okp_named hc hd hs h64 h3 0 hf dirs
      · exact bad_no (by decide) h
    · obtain ⟨h64, hf⟩ := take_find ht h3
      have hn : Okp ns ⟨d, s, m, dirs⟩ := okp_named hc hd hs h64 h3 m hf dirs
      rcases hk with ⟨_, hg⟩ | ⟨_, hx, hg⟩ | ⟨_, htg, hg⟩
      · rw [hg] at h ⊢
        split at h
        · exact bad_no (by decide) h
        · rw [if_neg ‹_›]; exact hn
      · rw [hg] at h ⊢
        split at h
        · rw [if_pos ‹_›]; exact hn
        · rw [if_neg ‹_›]; exact goP_ok hc hnext dirs l m hx hl' h
      · rw [hg] at h ⊢
        split at h
        · rw [if_pos ‹_›]
          refine hnext _ _ _ (by split; exact dr_root hc; exact hd) (fun p hp => ?_) h
          rcases List.mem_append.1 hp with hp | hp
          · refine parts_part ?_ p hp
            unfold targetP at htg
            simp only [Bool.and_eq_true, Bool.not_eq_true'] at htg
            exact htg.2
          · exact hl' p hp
        · rw [if_neg ‹_›]; exact hn
theorem leadP_ok {now : Int} {ns : List Nd} {e : Ev} {f : Bool} (hc : checkP now ns = true) : ∀ (h d : Nat) (l : List ByteArray) (b : Bool), Dr ns d → (∀ p ∈ l, Part p) → (leadP ns e f h d l b).2 = 0 → Okp ns (leadP ns e f h d l b).1
  | 0, _, _, _, _, _, q => bad_no (by decide) q
  | h + 1, d, l, b, hd, hl, q => goP_ok hc (fun d' l' b' => leadP_ok hc h d' l' b') b l d hd hl q
theorem find_ok {now : Int} {ns : List Nd} {e : Ev} {s : ByteArray} {f : Bool} (h : (findA now ns e s f).2 = 0) : Okp ns (findA now ns e s f).1 := by
  unfold findA at h ⊢
  cases hq : someP now ns e with
  | false => rw [hq] at h; exact bad_no (by decide) h
  | true =>
    obtain ⟨hck, d, hed, hdr⟩ := some_dir hq
    rw [if_neg (by rw [hq]; decide)] at h
    rw [if_neg (by decide)]
    unfold inPath at h ⊢
    split at h
    · exact bad_no (by decide) h
    rw [if_neg ‹_›]
    split at h
    · exact bad_no (by decide) h
    rename_i hb
    rw [if_neg hb]
    have h0 : hasB s 0 = false := by
      simp only [badP, Bool.or_eq_true, not_or, Bool.not_eq_true] at hb
      exact hb.2
    refine leadP_ok hck 17 _ _ _ ?_ (parts_part h0) h
    split
    · exact dr_root hck
    · rw [hed, Int.toNat_natCast]; exact hdr
end Go.Proofs.YtidhceebafmlkaaGreatDoor.Ca

namespace Go.Proofs.YtidhceebafmlkaaGreatDoor.Ca
open Go.RowKit Cu Tr Pm Pt
abbrev tyAct : TypeId := 101
abbrev clA (c : Cl) (dv : Value) : Array Value := #[.int .u8 (c.kind.toNat : Int), .string c.path, .string c.other, .int .i64 c.mode, .int .i64 c.user, .int .i64 c.group, .int .i64 c.time, dv, .int .i64 c.env.user, .int .i64 c.env.group, .int .i64 c.env.mask, .int .i64 c.env.dir]
abbrev atA (tv : Value) (a : Ac) (dv : Value) : Array Value := #[tv, .int .i64 a.now, .int .u8 (a.c.kind.toNat : Int), .string a.c.path, .string a.c.other, .int .i64 a.c.mode, .int .i64 a.c.user, .int .i64 a.c.group, .int .i64 a.c.time, dv, .int .i64 a.c.env.user, .int .i64 a.c.env.group, .int .i64 a.c.env.mask, .int .i64 a.c.env.dir, .int .i64 a.p.dir, .string a.p.name, .int .i64 a.p.node, .bool a.p.dirs, .int .i64 a.q.dir, .string a.q.name, .int .i64 a.q.node, .bool a.q.dirs]
structure At (w : World) (A : Nat) (x : Option Addr) (n cap : Nat) (dx : Option Addr) (dc : Nat) (a : Ac) : Prop where
  box : w.heap[A]? = some (.cells (atA (.slice x n cap) a (.slice dx a.c.data.length dc)) tyAct)
  ng : Ng w x n cap a.ns
  dat : By w dx a.c.data.length dc a.c.data
  chk : checkP a.now a.ns = true
  env : someP a.now a.ns a.c.env = true
  may : mayBeP a.c = true
theorem At.lt {w : World} {A : Nat} {x : Option Addr} {n cap : Nat} {dx : Option Addr} {dc : Nat} {a : Ac} (h : At w A x n cap dx dc a) : A < w.heap.size := (Array.getElem?_eq_some_iff.1 h.box).1
theorem At.below {w w' : World} {A : Nat} {x : Option Addr} {n cap : Nat} {dx : Option Addr} {dc : Nat} {a : Ac} (h : At w A x n cap dx dc a) (hb : Below w.heap.size w w') : At w' A x n cap dx dc a :=
  ⟨(hb.block _ h.lt).trans h.box, h.ng.below hb, h.dat.below hb, h.chk, h.env, h.may⟩
theorem At.al {w : World} {A : Nat} {x : Option Addr} {n cap : Nat} {dx : Option Addr} {dc : Nat} {a : Ac} (h : At w A x n cap dx dc a) (o : Obj) : At (w.alloc o) A x n cap dx dc a := h.below ((Below.refl _ _).alloc (Nat.le_refl _) _)
theorem At.dr {w : World} {A : Nat} {x : Option Addr} {n cap : Nat} {dx : Option Addr} {dc : Nat} {a : Ac} (h : At w A x n cap dx dc a) : At w.drew A x n cap dx dc a := h.below (below_drew w 1)
theorem At.len {w : World} {A : Nat} {x : Option Addr} {n cap : Nat} {dx : Option Addr} {dc : Nat} {a : Ac} (h : At w A x n cap dx dc a) : a.ns.length = n ∧ 2 ≤ n ∧ n ≤ 513 := by
  have := checkP_parts h.chk
  have := h.ng.len
  omega
theorem At.cells {w : World} {A : Nat} {x : Option Addr} {n cap : Nat} {dx : Option Addr} {dc : Nat} {a : Ac} (h : At w A x n cap dx dc a) :
    w.cell? ⟨A, 0, none⟩ = some (.slice x n cap) ∧ w.cell? ⟨A, 1, none⟩ = some (.int .i64 a.now) ∧ w.cell? ⟨A, 2, none⟩ = some (.int .u8 (a.c.kind.toNat : Int)) ∧ w.cell? ⟨A, 3, none⟩ = some (.string a.c.path) ∧ w.cell? ⟨A, 4, none⟩ = some (.string a.c.other) ∧ w.cell? ⟨A, 5, none⟩ = some (.int .i64 a.c.mode) ∧ w.cell? ⟨A, 6, none⟩ = some (.int .i64 a.c.user) ∧ w.cell? ⟨A, 7, none⟩ = some (.int .i64 a.c.group) ∧ w.cell? ⟨A, 8, none⟩ = some (.int .i64 a.c.time) ∧ w.cell? ⟨A, 9, none⟩ = some (.slice dx a.c.data.length dc) ∧ w.cell? ⟨A, 10, none⟩ = some (.int .i64 a.c.env.user) ∧ w.cell? ⟨A, 11, none⟩ = some (.int .i64 a.c.env.group) ∧ w.cell? ⟨A, 12, none⟩ = some (.int .i64 a.c.env.mask) ∧ w.cell? ⟨A, 13, none⟩ = some (.int .i64 a.c.env.dir) ∧ w.cell? ⟨A, 14, none⟩ = some (.int .i64 a.p.dir) ∧ w.cell? ⟨A, 15, none⟩ = some (.string a.p.name) ∧ w.cell? ⟨A, 16, none⟩ = some (.int .i64 a.p.node) ∧ w.cell? ⟨A, 17, none⟩ = some (.bool a.p.dirs) ∧ w.cell? ⟨A, 18, none⟩ = some (.int .i64 a.q.dir) ∧ w.cell? ⟨A, 19, none⟩ = some (.string a.q.name) ∧ w.cell? ⟨A, 20, none⟩ = some (.int .i64 a.q.node) ∧ w.cell? ⟨A, 21, none⟩ = some (.bool a.q.dirs) := by
  have c : ∀ j, w.cell? ⟨A, j, none⟩ = (atA (.slice x n cap) a (.slice dx a.c.data.length dc))[j]? := fun j => cell_of_row _ _ _ _ _ _ h.box
  exact ⟨c 0, c 1, c 2, c 3, c 4, c 5, c 6, c 7, c 8, c 9, c 10, c 11, c 12, c 13, c 14, c 15, c 16, c 17, c 18, c 19, c 20, c 21⟩
theorem sm_of {now : Int} {ns : List Nd} (h : checkP now ns = true) : Sm ns := by
  obtain ⟨a, b, -, -, -, -, -, l, -⟩ := checkP_parts h
  unfold limitsP at l
  simp only [Bool.and_eq_true, decide_eq_true_eq] at l
  exact ⟨by omega, fun i => by have := lists_small h i; omega, by omega, by omega⟩
def IsNd (w : World) (v : Value) (n : Nd) : Prop := ∃ da dc la lc, v = nv n da dc la lc ∧ By w da n.data.length dc n.data ∧ Eg w la n.list.length lc n.list
theorem IsNd.below {w w' : World} {v : Value} {n : Nd} (h : IsNd w v n) (hb : Below w.heap.size w w') : IsNd w' v n := by
  obtain ⟨da, dc, la, lc, h1, h2, h3⟩ := h
  exact ⟨da, dc, la, lc, h1, h2.below hb, h3.below hb⟩
theorem At.node {w : World} {A : Nat} {x : Option Addr} {n cap : Nat} {dx : Option Addr} {dc : Nat} {a : Ac} (h : At w A x n cap dx dc a) (i : Nat) (hi : i < a.ns.length) :
    ∃ b off da ec la lc, x = some ⟨b, off, none⟩ ∧ b < w.heap.size ∧ N10 w b (off + i * 10) (nd a.ns i) (.slice da (nd a.ns i).data.length ec) (.slice la (nd a.ns i).list.length lc) ∧ By w da (nd a.ns i).data.length ec (nd a.ns i).data ∧ Eg w la (nd a.ns i).list.length lc (nd a.ns i).list := by
  have hl := h.len
  rcases h.ng.cells with h0 | ⟨b, off, h1, h2, h3⟩
  · omega
  · obtain ⟨da, ec, la, lc, q1, q2, q3⟩ := h3 i (by omega)
    exact ⟨b, off, da, ec, la, lc, h1, h2, q1, q2, q3⟩
set_option maxRecDepth 100000 in
set_option maxHeartbeats 400000 in
theorem isNameless_any (p : Pl) (w : World) : Calls Tryz.prog 189 #[.agg (pv p)] w fun e w' => e = .returned (.bool (nameless p)) ∧ Below w.heap.size w w' := by
  obtain ⟨pd, pn, pm, pb⟩ := p
  have hq : nameless ⟨pd, pn, pm, pb⟩ = (pn.toList == []) := by
    rw [s_beq]
    unfold nameless
    exact decide_eq_decide.2 ⟨fun h => none_of h, fun h => by have := congrArg List.length h; exact this⟩
  rw [hq]
  have hb0 : Hid (Below w.heap.size w (w.alloc (.cells (pv ⟨pd, pn, pm, pb⟩) 99))) := (Below.refl _ _).alloc (Nat.le_refl _) _
  unfold pv at hb0 ⊢
  simp only at hb0 ⊢
  generalize hr : (pn.toList == []) = r at *
  go_enter Tryz.func189, Tryz.ntmps189
  go_wp2
  go_ret
  exact ⟨rfl, uh hb0⟩
set_option maxRecDepth 100000 in
set_option maxHeartbeats 400000 in
theorem when_any (b : Bool) (k : Int) (w : World) : Calls Tryz.prog 188 #[.bool b, .int .i64 k] w fun e w' => e = .returned (.int .i64 (wh b k)) ∧ w' = w := by
  cases b
  · go_enter Tryz.func188, Tryz.ntmps188
    go_wp2
    go_ret
    exact ⟨rfl, rfl⟩
  · go_enter Tryz.func188, Tryz.ntmps188
    go_wp2
    go_ret
    exact ⟨rfl, rfl⟩
theorem or_drop : ∀ (ks : List Int) (k : Nat), (∀ i, i < k → ks.getD i 0 = 0) → orP ks = orP (ks.drop k)
  | _, 0, _ => rfl
  | [], _ + 1, _ => rfl
  | x :: l, k + 1, h => by
    have h0 := h 0 (by omega)
    simp only [List.getD_cons_zero] at h0
    rw [orP, if_pos h0, List.drop_succ_cons]
    exact or_drop l k fun i hi => by simpa using h (i + 1) (by omega)
theorem or_at (ks : List Int) (k : Nat) (hk : k < ks.length) (h : ∀ i, i < k → ks.getD i 0 = 0) (hx : ks.getD k 0 ≠ 0) : orP ks = ks.getD k 0 := by
  rw [or_drop ks k h, List.drop_eq_getElem_cons hk, orP]
  simp only [List.getD, List.getElem?_eq_getElem hk, Option.getD_some] at hx ⊢
  rw [if_neg hx]
set_option maxRecDepth 100000 in
set_option maxHeartbeats 400000 in
theorem or_any (ks : List Int) (g n c : Nat) (w : World) (hn : ks.length = n) (h : ∀ i, i < n → w.cell? ⟨g, i, none⟩ = some (.int .i64 (ks.getD i 0))) (hn2 : n ≤ 100) :
    Calls Tryz.prog 187 #[.slice (some ⟨g, 0, none⟩) n c] w fun e w' => e = .returned (.int .i64 (orP ks)) ∧ w' = w := by
  have H := hide h
  have HN := hide hn
  clear h hn
  go_enter Tryz.func187, Tryz.ntmps187
  go_wp2
  go_loopw [5, 8] (fun _ v8 wr => ∃ k : Nat, k ≤ n ∧ v8 = .int .i64 k ∧ wr = w ∧ Hid (∀ i, i < k → ks.getD i 0 = 0)) (fun _ v8 _ => n - (intOf v8).toNat)
  case atStart => exact ⟨0, Nat.zero_le _, rfl, rfl, fun i hi => absurd hi (by omega)⟩
  case round =>
    obtain ⟨k, hk, rfl, rfl, hz⟩ := hrel
    by_cases hlt : k < n
    · have hlt' : (k : Int) < (n : Int) := by omega
      have hc := uh H k hlt
      have HX : Hid (ks.getD k 0 ≠ 0 → orP ks = ks.getD k 0) := fun hx => or_at ks k (by rw [uh HN]; exact hlt) (uh hz) hx
      have HZ : Hid (ks.getD k 0 = 0 → ∀ i, i < k + 1 → ks.getD i 0 = 0) := fun hx i hi => by
        by_cases e : i < k
        · exact uh hz i e
        · rw [show i = k by omega]; exact hx
      generalize ks.getD k 0 = z at *
      by_cases hzz : z = 0
      · have HZ2 := hide (uh HZ hzz)
        subst hzz
        clear HZ HX hz
        go_wp2
        go_roundw
        case rel => exact ⟨k + 1, by omega, by go_num, by simp, HZ2⟩
        case measure => simp [intOf]; omega
      · have HX2 := hide (uh HX hzz)
        clear HZ HX hz
        go_wp2
        go_ret
        exact ⟨by rw [uh HX2]; rfl, rfl⟩
    · have hO : Hid (orP ks = 0) := hide (by rw [or_drop ks k (uh hz), List.drop_eq_nil_of_le (by rw [uh HN]; omega)]; rfl)
      clear hz
      go_wp2
      go_ret
      exact ⟨by rw [uh hO]; rfl, rfl⟩
set_option maxRecDepth 100000 in
set_option maxHeartbeats 400000 in
theorem isNone_any (v : Value) (n : Nd) (w : World) (h : IsNd w v n) : Calls Tryz.prog 190 #[v] w fun e w' => e = .returned (.bool (isN n)) ∧ Below w.heap.size w w' := by
  obtain ⟨da, dc, la, lc, rfl, -, -⟩ := h
  have hq : isN n = ((n.kind.toNat : Int) == 0) := (kd_eq n.kind 0).symm
  rw [hq]
  obtain ⟨kd, md, us, gr, lk, ti, dt, tg, ls, pa⟩ := n
  have hb0 : Hid (Below w.heap.size w (w.alloc (.cells (na ⟨kd, md, us, gr, lk, ti, dt, tg, ls, pa⟩ (.slice da dt.length dc) (.slice la ls.length lc)) 82))) := (Below.refl _ _).alloc (Nat.le_refl _) _
  unfold nv na at *
  simp only at *
  go_enter Tryz.func190, Tryz.ntmps190
  go_wp2
  go_ret
  exact ⟨rfl, uh hb0⟩
set_option maxRecDepth 100000 in
set_option maxHeartbeats 400000 in
theorem isDir_any' (v : Value) (n : Nd) (w : World) (h : IsNd w v n) : Calls Tryz.prog 197 #[v] w fun e w' => e = .returned (.bool (isD n)) ∧ Below w.heap.size w w' := by
  obtain ⟨da, dc, la, lc, rfl, -, -⟩ := h
  have hq : isD n = ((n.kind.toNat : Int) == 2) := (kd_eq n.kind 2).symm
  rw [hq]
  obtain ⟨kd, md, us, gr, lk, ti, dt, tg, ls, pa⟩ := n
  have hb0 : Hid (Below w.heap.size w (w.alloc (.cells (na ⟨kd, md, us, gr, lk, ti, dt, tg, ls, pa⟩ (.slice da dt.length dc) (.slice la ls.length lc)) 82))) := (Below.refl _ _).alloc (Nat.le_refl _) _
  unfold nv na at *
  simp only at *
  go_enter Tryz.func197, Tryz.ntmps197
  go_wp2
  go_ret
  exact ⟨rfl, uh hb0⟩
end Go.Proofs.YtidhceebafmlkaaGreatDoor.Ca
