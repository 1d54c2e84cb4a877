/- A teller's methods: node, tree; what PutTree answers. -/
import Derived.Test.YtbofidpoajdcmabCdAre
namespace Go.Proofs.Ytbofidpoajdcmab.Cd
open Go.RowKit Cu Tr

theorem Eg.low {w w' : World} {K : Nat} {a : Option Addr} {n cap : Nat} {es : List En} (h : Eg w a n cap es) (hk : 0 < n → ∀ ad, a = some ad → ad.block < K) (hb : Below K w w') : Eg w' a n cap es := by
  refine ⟨h.len, h.le, h.nil, ?_⟩
  rcases h.cells with h | ⟨b, off, e, hlt, hc⟩
  · exact .inl h
  · by_cases h0 : n = 0
    · exact .inl h0
    have hk2 := hk (by omega) _ e
    exact .inr ⟨b, off, e, Nat.lt_of_lt_of_le hlt hb.size, fun i hi => (hc i hi).of fun o => World.cell?_of_block (hb.block b hk2)⟩
theorem By.lowK {w w' : World} {K : Nat} {a : Option Addr} {n cap : Nat} {l : Bs} (h : By w a n cap l) (hk : 0 < n → ∀ ad, a = some ad → ad.block < K) (hb : Below K w w') : By w' a n cap l := by
  refine ⟨h.len, h.le, h.nil, ?_⟩
  rcases h.cells with h | ⟨b, off, e, hlt, hc⟩
  · exact .inl h
  · by_cases h0 : n = 0
    · exact .inl h0
    have hk2 := hk (by omega) _ e
    exact .inr ⟨b, off, e, Nat.lt_of_lt_of_le hlt hb.size, fun i hi => (World.cell?_of_block (hb.block b hk2)).trans (hc i hi)⟩
/-- a block that holds a node -/
def Nb (w : World) (b : Nat) (n : Nd) (d l : Value) : Prop := w.heap[b]? = some (.cells (nA n d l) 70 (0, 0))
theorem Nb.at {w : World} {b : Nat} {n : Nd} {d l : Value} (h : Nb w b n d l) (i : Nat) (v : Value) (hv : (nA n d l)[i]? = some v) : w.cell? ⟨b, i, none⟩ = some v := (cell_of_row _ _ _ _ _ _ h).trans hv
/-- so far as a node is told -/
structure Sn (w : World) (g b : Nat) (o : Option Nat) (n : Nd) (d l : Value) (wk : World) (ok : Option Nat) (cur : Bs) : Prop where
  tl : Tl wk g ok cur
  tk : Tk w wk g o ok
  nb : Nb wk b n d l
  bl : Below g w wk
  offb : Off (some ⟨b, 0, none⟩) g ok
theorem Sn.more {w wk w' : World} {g b : Nat} {o ok o' : Option Nat} {n : Nd} {d l : Value} {cur cur' : Bs} (h : Sn w g b o n d l wk ok cur) (ht : Tl w' g o' cur') (hk : Tk wk w' g ok o') : Sn w g b o n d l w' o' cur' :=
  ⟨ht, h.tk.trans hk, (hk.block b (Array.getElem?_eq_some_iff.1 h.nb).1 (h.offb _ rfl).1 (h.offb _ rfl).2).trans h.nb, h.bl.trans (hk.below h.tl), h.offb.tk hk (fun ad e => by injection e with e; subst e; exact (Array.getElem?_eq_some_iff.1 h.nb).1)⟩
theorem Sn.below {w wk w' : World} {g b : Nat} {o ok : Option Nat} {n : Nd} {d l : Value} {cur : Bs} (h : Sn w g b o n d l wk ok cur) (hb : Below wk.heap.size wk w') : Sn w g b o n d l w' ok cur := h.more (h.tl.below hb) (Tk.of_below hb)
theorem off_lo {w : World} {g : Nat} {o : Option Nat} {out : Bs} {a : Option Addr} (h : Tl w g o out) (hk : ∀ ad, a = some ad → ad.block < g) : Off a g o := fun ad e => by
  have h1 := hk ad e
  refine ⟨by omega, fun q => ?_⟩
  have := (h.at_lo _ q.symm).1
  omega
theorem nums1 (w : World) (a : Int) : Nums (w.alloc (.cells #[.int .i64 a] 3)) w.heap.size [a] := heap_alloc_new w _
theorem nums5 (w : World) (a b c d e : Int) : Nums (w.alloc (.cells #[.int .i64 a, .int .i64 b, .int .i64 c, .int .i64 d, .int .i64 e] 3)) w.heap.size [a, b, c, d, e] := heap_alloc_new w _
theorem take_en (l : List En) (k : Nat) (h : k < l.length) : l.take (k + 1) = l.take k ++ [en l k] := by
  rw [List.take_succ_eq_append_getElem h]; simp [en, List.getD, List.getElem?_eq_getElem h]
theorem take_nd9 (l : List Nd) (k : Nat) (h : k < l.length) : l.take (k + 1) = l.take k ++ [nd l k] := by
  rw [List.take_succ_eq_append_getElem h]; simp [nd, List.getD, List.getElem?_eq_getElem h]
theorem ents_take (l : List En) (k : Nat) (h : k < l.length) : entsB (l.take (k + 1)) = entsB (l.take k) ++ (txtB (bs (en l k).name) ++ numsB [(en l k).node]) := by rw [take_en l k h, entsB_snoc]; rfl
theorem nodes_take (l : List Nd) (k : Nat) (h : k < l.length) : nodesB (l.take (k + 1)) = nodesB (l.take k) ++ nodeB (nd l k) := by rw [take_nd9 l k h, nodesB_snoc]
theorem ents_take_le {l : List En} (h : mayEnts l = true) (k : Nat) : (entsB (l.take k)).length ≤ 40000000 := by
  obtain ⟨h1, h2⟩ := mayEnts_all h
  have h3 := entsB_le (l.take k) (fun e he => h2 e (List.mem_of_mem_take he))
  have h4 : (l.take k).length ≤ 512 := by rw [List.length_take]; omega
  have h5 : (l.take k).length * 65548 ≤ 512 * 65548 := Nat.mul_le_mul_right _ h4
  omega
theorem nodes_take_le {l : List Nd} (h : mayTree l = true) (k : Nat) : (nodesB (l.take k)).length ≤ 30000000000 := by
  obtain ⟨h1, h2⟩ := mayTree_all h
  have h3 := nodesB_le (l.take k) (fun e he => h2 e (List.mem_of_mem_take he))
  have h4 : (l.take k).length ≤ 513 := by rw [List.length_take]; omega
  have h5 : (l.take k).length * 40000000 ≤ 513 * 40000000 := Nat.mul_le_mul_right _ h4
  omega
set_option maxHeartbeats 4000000 in
set_option maxRecDepth 100000 in
theorem tnode_any (n : Nd) (da la : Option Addr) (dc lc : Nat) (g : Nat) (o : Option Nat) (out : Bs) (w : World) (hT : Tl w g o out)
    (hB : By w da n.data.length dc n.data) (hB2 : 0 < n.data.length → ∀ ad, da = some ad → ad.block < g) (hL : Eg w la n.list.length lc n.list) (hL2 : 0 < n.list.length → ∀ ad, la = some ad → ad.block < g) (hm : mayNode n = true) (hl : out.length ≤ 17592186044416) :
    Calls Try.prog 32 #[tv g, .agg (nA n (.slice da n.data.length dc) (.slice la n.list.length lc))] w fun e w' => e = .returned (.tuple #[]) ∧ ∃ o', Tl w' g o' (out ++ nodeB n) ∧ Tk w w' g o o' := by
  obtain ⟨m1, m2, m3⟩ := mayNode_all hm
  obtain ⟨m4, m5⟩ := mayEnts_all m3
  obtain ⟨kind, mode, user, group, links, time, data, target, list, parent⟩ := n
  simp only at hB hB2 hL hL2 m1 m2 m3 m4 m5
  have S0 : Hid (Sn w g w.heap.size o ⟨kind, mode, user, group, links, time, data, target, list, parent⟩ (.slice da data.length dc) (.slice la list.length lc) (w.alloc (.cells (nA ⟨kind, mode, user, group, links, time, data, target, list, parent⟩ (.slice da data.length dc) (.slice la list.length lc)) 70 (0, 0))) o out) :=
    ⟨hT.below (below_new _ _), Tk.of_below (below_new _ _), heap_alloc_new w _, (below_new _ _).mono (Nat.le_of_lt hT.lt), off_new hT 0⟩
  have HB := hide hB
  have HB2 := hide hB2
  have HL := hide hL
  have HL2 := hide hL2
  have M3 := hide m3
  clear hT hB hB2 hL hL2 hm m3
  go_enter Try.func32, Try.ntmps32
  go_wp2_with fail
  have T1 := hide (tell_any (some ⟨w.heap.size + 1, 0, none⟩) 1 1 [kind] g o out _ ((unhide S0).tl.below (below_new _ (.cells #[.int .u8 (kind.toNat : Int)] 5))) (by have := blk_one (w.alloc (.cells (nA ⟨kind, mode, user, group, links, time, data, target, list, parent⟩ (.slice da data.length dc) (.slice la list.length lc)) 70 (0, 0))) kind; rw [World.size_alloc] at this; exact this) (by omega))
  refine (unhide T1).mono ?_
  rintro e w1 ⟨rfl, o1, h1, h2⟩
  have S1 := hide (((unhide S0).below (below_new _ _)).more h1 h2)
  clear T1 h1 h2 S0
  have k1 : w1.cell? ⟨w.heap.size, 1, none⟩ = some (.int .i64 mode) := (unhide S1).nb.at 1 _ rfl
  have k2 : w1.cell? ⟨w.heap.size, 2, none⟩ = some (.int .i64 user) := (unhide S1).nb.at 2 _ rfl
  have k3 : w1.cell? ⟨w.heap.size, 3, none⟩ = some (.int .i64 group) := (unhide S1).nb.at 3 _ rfl
  have k4 : w1.cell? ⟨w.heap.size, 4, none⟩ = some (.int .i64 links) := (unhide S1).nb.at 4 _ rfl
  have k5 : w1.cell? ⟨w.heap.size, 5, none⟩ = some (.int .i64 time) := (unhide S1).nb.at 5 _ rfl
  go_wp2_with fail
  refine (numbers_any w1.heap.size 5 [mode, user, group, links, time] g o1 _ _ ((unhide S1).tl.below (below_new _ _)) (nums5 w1 _ _ _ _ _) rfl (by omega) (off_new (unhide S1).tl 0) (by simp; omega)).mono ?_
  rintro e w4 ⟨rfl, o4, h1, h2⟩
  have S4 := hide (((unhide S1).below (below_new _ _)).more h1 h2)
  clear h1 h2 k1 k2 k3 k4 k5 S1
  have k6 : w4.cell? ⟨w.heap.size, 6, none⟩ = some (.slice da data.length dc) := (unhide S4).nb.at 6 _ rfl
  go_wp2_with fail
  refine (data_any da data.length dc data g o4 _ w4 (unhide S4).tl (By.lowK (unhide HB) (unhide HB2) (unhide S4).bl) (fun h0 => off_lo (unhide S4).tl (unhide HB2 h0)) m1 (by simp [numsB_len]; omega)).mono ?_
  rintro e w5 ⟨rfl, o5, h1, h2⟩
  have S5 := hide ((unhide S4).more h1 h2)
  clear h1 h2 k6 S4
  have k7 : w5.cell? ⟨w.heap.size, 7, none⟩ = some (.string target) := (unhide S5).nb.at 7 _ rfl
  go_wp2_with fail
  refine (text_any target g o5 _ w5 (unhide S5).tl m2 (by simp [txtB_len, numsB_len]; omega)).mono ?_
  rintro e w6 ⟨rfl, o6, h1, h2⟩
  have S6 := hide ((unhide S5).more h1 h2)
  clear h1 h2 k7 S5
  have k8 : w6.cell? ⟨w.heap.size, 8, none⟩ = some (.slice la list.length lc) := (unhide S6).nb.at 8 _ rfl
  go_wp2_with fail
  refine (length_any list.length g o6 _ w6 (unhide S6).tl (by omega) (by simp [txtB_len, numsB_len]; omega)).mono ?_
  rintro e w7 ⟨rfl, o7, h1, h2⟩
  obtain ⟨cur0, hcur⟩ : ∃ c, c = out ++ [kind] ++ numsB [mode, user, group, links, time] ++ txtB data ++ txtB (bs target) ++ lenB list.length := ⟨_, rfl⟩
  have hcl : Hid (cur0.length ≤ out.length + 200000) := hide (by rw [hcur]; simp [txtB_len, numsB_len, lenB_len]; omega)
  rw [← hcur] at h1
  have S7 := hide ((unhide S6).more h1 h2)
  have HC := hide hcur
  clear h1 h2 k8 S6 hcur
  have k9 : w7.cell? ⟨w.heap.size, 8, none⟩ = some (.slice la list.length lc) := (unhide S7).nb.at 8 _ rfl
  go_wp2_with fail
  clear k9
  go_loopw [40] (fun v wr => ∃ k : Nat, k ≤ list.length ∧ v = .int .i64 k ∧ ∃ o', Hid (Sn w g w.heap.size o ⟨kind, mode, user, group, links, time, data, target, list, parent⟩ (.slice da data.length dc) (.slice la list.length lc) wr o' (cur0 ++ entsB (list.take k)))) (fun v _ => list.length - (intOf v).toNat)
  case atStart => exact ⟨0, Nat.zero_le _, rfl, o7, by rw [List.take_zero]; show Sn _ _ _ _ _ _ _ _ _ (cur0 ++ []); rw [List.append_nil]; exact unhide S7⟩
  case round =>
    clear S7
    obtain ⟨k, hk, rfl, ok, hS⟩ := hrel
    by_cases hlt : k < list.length
    · have hlt' : (k : Int) < (list.length : Int) := by omega
      have hll := hlt
      have hEr := Eg.low (unhide HL) (unhide HL2) (unhide hS).bl
      obtain ⟨b, off, rfl, hbl, hcs⟩ : ∃ b off, la = some ⟨b, off, none⟩ ∧ b < wr.heap.size ∧ ∀ i, i < list.length → E2 wr b (off + i * 2) (en list i) := by
        rcases hEr.cells with h | h
        · omega
        · exact h
      have hE := hcs k hll
      have hmx : (en list k).name.size ≤ 65536 := m5 _ (by simp [en, List.getD, List.getElem?_eq_getElem hll])
      have hst := hide (ents_take list k hll)
      have hle := ents_take_le (unhide M3) k
      generalize en list k = x at *
      obtain ⟨nm, node⟩ := x
      have c0 := hE.c0
      have c1 := hE.c1
      simp only at c0 c1 hmx hst
      have Sa := hide ((unhide hS).below (below_new wr (.cells #[.string nm, .int .i64 node] 88)))
      have hbx : Hid ((wr.alloc (.cells #[.string nm, .int .i64 node] 88)).heap[wr.heap.size]? = some (.cells #[.string nm, .int .i64 node] 88)) := heap_alloc_new wr _
      have hox := hide (off_new (unhide hS).tl 0)
      have TX := hide (text_any nm g ok _ _ (unhide Sa).tl hmx (by have := unhide hcl; rw [List.length_append]; omega))
      clear hE hcs hEr hS
      go_wp2_with fail
      refine (unhide TX).mono ?_
      rintro e w8 ⟨rfl, o8, h1, h2⟩
      have e8 := (h2.block wr.heap.size (by simp) (unhide hox _ rfl).1 (unhide hox _ rfl).2).trans (unhide hbx)
      have k11 : w8.cell? ⟨wr.heap.size, 1, none⟩ = some (.int .i64 node) := by rw [cell_of_row _ _ _ _ _ _ e8]; rfl
      have S8 := hide ((unhide Sa).more h1 h2)
      have NX := hide (numbers_any w8.heap.size 1 [node] g o8 _ _ ((unhide S8).tl.below (below_new _ _)) (nums1 w8 node) rfl (by omega) (off_new (unhide S8).tl 0) (by have := unhide hcl; simp [txtB_len]; omega))
      clear TX h1 h2 e8 hbx hox Sa c0 c1
      go_wp2_with fail
      refine (unhide NX).mono ?_
      rintro e w9 ⟨rfl, o9, h1, h2⟩
      have S9 := ((unhide S8).below (below_new _ _)).more h1 h2
      rw [List.append_assoc, List.append_assoc, ← unhide hst] at S9
      have HS9 := hide S9
      clear NX h1 h2 S8 S9 k11 hst
      go_wp2_with fail
      go_roundw
      case rel => exact ⟨k + 1, by omega, by go_num, o9, HS9⟩
      case measure => simp [intOf]; omega
    · have hlt' : ¬ (k : Int) < (list.length : Int) := by omega
      have hkn : list.take k = list := List.take_of_length_le (by omega)
      rw [hkn] at hS
      have k12 : wr.cell? ⟨w.heap.size, 9, none⟩ = some (.int .i64 parent) := (unhide hS).nb.at 9 _ rfl
      have hle := ents_take_le (unhide M3) k
      rw [hkn] at hle
      have NX := hide (numbers_any wr.heap.size 1 [parent] g ok _ _ ((unhide hS).tl.below (below_new _ _)) (nums1 wr parent) rfl (by omega) (off_new (unhide hS).tl 0) (by have := unhide hcl; simp; omega))
      clear hkn
      go_wp2_with fail
      refine (unhide NX).mono ?_
      rintro e w9 ⟨rfl, o9, h1, h2⟩
      have S9 := hide (((unhide hS).below (below_new _ _)).more h1 h2)
      clear NX h1 h2 hS k12
      go_wp2_with fail
      go_end0
      refine ⟨rfl, o9, ?_, (unhide S9).tk⟩
      have := (unhide S9).tl
      rw [unhide HC] at this
      unfold nodeB
      simpa only [List.append_assoc] using this
end Go.Proofs.Ytbofidpoajdcmab.Cd
