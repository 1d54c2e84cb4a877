/- Trees and calls put and got, in plain words; no program is named here. -/
import Derived.Test.YtbofidpoajdcmabCdBackP
import Derived.Test.YtbofidpoajdcmabCdTreeP
namespace Go.Proofs.Ytbofidpoajdcmab.Cd
open Go.RowKit Cu Tr

/-! ### what was put is got -/
def WfE (e : En) : Prop := inR e.node
def WfN (n : Nd) : Prop := (∀ z ∈ [n.mode, n.user, n.group, n.links, n.time, n.parent], inR z) ∧ ∀ e ∈ n.list, WfE e
theorem entP_put (e : En) (r : Bs) (hm : e.name.size ≤ 65536) (hw : WfE e) : entP (entB e ++ r) = some (e, r) := by
  unfold entP entB
  rw [List.append_assoc, txtP_put _ _ (by rw [bs_len]; exact hm)]
  simp only [Option.bind_some]
  have h := intsP_put [e.node] r (fun z hz => by simp at hz; subst hz; exact hw)
  rw [show [e.node].length = 1 from rfl] at h
  rw [h]
  simp [ba]
theorem manyP_put {α : Type} {f : Bs → Option (α × Bs)} {g : α → Bs} : ∀ (xs : List α) (r : Bs), (∀ x ∈ xs, ∀ r, f (g x ++ r) = some (x, r)) → manyP f xs.length (xs.flatMap g ++ r) = some (xs, r)
  | [], r, _ => by simp [manyP]
  | x :: xs, r, h => by
    rw [List.length_cons, manyP, List.flatMap_cons, List.append_assoc, h x (by simp)]
    simp only [Option.bind_some]
    rw [manyP_put xs r (fun y hy => h y (by simp [hy]))]
    rfl
theorem numN_one (c : UInt8) (r : Bs) : numN 1 ([c] ++ r) = some (c.toNat, r) := by
  unfold numN
  rw [takeP_app (x := [c]) (n := 1) rfl]
  simp [val]
theorem nodeP_put (n : Nd) (r : Bs) (hm : mayNode n = true) (hw : WfN n) : nodeP (nodeB n ++ r) = some (n, r) := by
  obtain ⟨m1, m2, m3⟩ := mayNode_all hm
  obtain ⟨m4, m5⟩ := mayEnts_all m3
  obtain ⟨w1, w2⟩ := hw
  obtain ⟨kind, mode, user, group, links, time, data, target, list, parent⟩ := n
  simp only at m1 m2 m4 m5 w1 w2
  unfold nodeP n1 nodeB
  simp only [List.append_assoc]
  rw [numN_one]
  simp only [Option.bind_some, n2]
  have h := intsP_put [mode, user, group, links, time] (txtB data ++ (txtB (bs target) ++ (lenB list.length ++ (entsB list ++ (numsB [parent] ++ r))))) (fun z hz => w1 z (by simp only [List.mem_cons, List.not_mem_nil, or_false] at hz ⊢; rcases hz with h | h | h | h | h <;> simp [h]))
  rw [show [mode, user, group, links, time].length = 5 from rfl] at h
  rw [h]
  simp only [Option.bind_some, n3]
  rw [txtP_put _ _ m1]
  simp only [Option.bind_some, n4]
  rw [txtP_put _ _ (by rw [bs_len]; exact m2)]
  simp only [Option.bind_some, n5]
  rw [lenP_put 512 _ _ m4 (by omega)]
  simp only [Option.bind_some]
  rw [show entsB list = list.flatMap entB from rfl, manyP_put list _ (fun e he r => entP_put e r (m5 e he) (w2 e he))]
  simp only [Option.bind_some, n6]
  have h5 := intsP_put [parent] r (fun z hz => w1 z (by simp at hz ⊢; simp [hz]))
  rw [show [parent].length = 1 from rfl] at h5
  rw [h5]
  simp [n7, ba]
theorem treeP_put (now : Int) (ns : List Nd) (r : Bs) (hm : mayTree ns = true) (hn : inR now) (hw : ∀ n ∈ ns, WfN n) : treeP (treeB now ns ++ r) = some ((now, ns), r) := by
  obtain ⟨m1, m2⟩ := mayTree_all hm
  unfold treeP treeB nodesP9
  simp only [List.append_assoc]
  have h5 := intsP_put [now] (lenB ns.length ++ (nodesB ns ++ r)) (fun z hz => by simp at hz; subst hz; exact hn)
  rw [show [now].length = 1 from rfl] at h5
  rw [h5]
  simp only [Option.bind_some]
  rw [lenP_put 513 _ _ m1 (by omega)]
  simp only [Option.bind_some]
  rw [show nodesB ns = ns.flatMap nodeB from rfl, manyP_put ns _ (fun n hn r => nodeP_put n r (m2 n hn) (hw n hn))]
  simp

/-! ### what was got is put as the bytes that it had -/
theorem le_val : ∀ x : Bs, le x.length (val x) = x
  | [] => rfl
  | c :: x => by
    have hc := c.toNat_lt
    rw [List.length_cons, le, val]
    have h1 : (c.toNat + 256 * val x) / 256 = val x := by omega
    have h2 : UInt8.ofNat (c.toNat + 256 * val x) = c := by
      apply UInt8.toNat_inj.1
      rw [UInt8.toNat_ofNat']
      omega
    rw [h1, h2, le_val x]
theorem takeP_un {n : Nat} {l x r : Bs} (h : takeP n l = some (x, r)) : l = x ++ r ∧ x.length = n := by
  refine ⟨?_, takeP_len h⟩
  unfold takeP at h
  split at h
  · simp at h; rw [← h.1, ← h.2, List.take_append_drop]
  · simp at h
theorem numN_un {k : Nat} {l r : Bs} {v : Nat} (h : numN k l = some (v, r)) : l = le k v ++ r := by
  simp only [numN, Option.map_eq_some_iff] at h
  obtain ⟨p, hp, h⟩ := h
  injection h with h1 h2
  obtain ⟨e1, e2⟩ := takeP_un (x := p.1) (r := p.2) hp
  rw [← h1, ← h2, ← e2, le_val]
  exact e1
theorem lenP_un {m : Nat} {l r : Bs} {n : Nat} (h : lenP m l = some (n, r)) : l = lenB n ++ r := by
  simp only [lenP, Option.bind_eq_some_iff] at h
  obtain ⟨p, hp, h⟩ := h
  split at h
  · injection h with h
    subst h
    exact numN_un hp
  · simp at h
theorem txtP_un {l x r : Bs} (h : txtP l = some (x, r)) : l = txtB x ++ r ∧ x.length ≤ 65536 := by
  simp only [txtP, Option.bind_eq_some_iff] at h
  obtain ⟨p, hp, h⟩ := h
  obtain ⟨e1, e2⟩ := takeP_un h
  have e3 := lenP_un (n := p.1) (r := p.2) hp
  have e4 := lenP_le (x := p.1) (r := p.2) hp
  refine ⟨?_, by omega⟩
  rw [e3, txtB, e2, List.append_assoc, ← e1]
theorem u64_s64 (n : Nat) (h : n < 18446744073709551616) : u64 (s64 n) = n := by
  unfold s64 u64
  split <;> omega
theorem intP_un {l r : Bs} {z : Int} (h : intP l = some (z, r)) : l = numB z ++ r := by
  simp only [intP, Option.map_eq_some_iff] at h
  obtain ⟨p, hp, h⟩ := h
  injection h with h1 h2
  have hx := numN_lt (x := p.1) (r := p.2) hp
  rw [← h1, ← h2, numB, u64_s64 _ (by omega)]
  exact numN_un (v := p.1) (r := p.2) hp
theorem intsP_un : ∀ {k : Nat} {l r : Bs} {zs : List Int}, intsP k l = some (zs, r) → l = numsB zs ++ r ∧ zs.length = k
  | 0, l, r, zs, h => by simp [intsP] at h; obtain ⟨rfl, rfl⟩ := h; simp [numsB]
  | k + 1, l, r, zs, h => by
    refine ⟨?_, intsP_len h⟩
    simp only [intsP, Option.bind_eq_some_iff, Option.map_eq_some_iff] at h
    obtain ⟨p, hp, q, hq, h⟩ := h
    injection h with h1 h2
    rw [← h1, ← h2, show numsB (p.1 :: q.1) = numB p.1 ++ numsB q.1 from rfl, List.append_assoc, ← (intsP_un (zs := q.1) (r := q.2) hq).1]
    exact intP_un (z := p.1) (r := p.2) hp
theorem one_byte {x : Nat} (_h : x < 256) : le 1 x = [UInt8.ofNat x] := rfl
theorem list4 {zs : List Int} (h : zs.length = 4) : zs = [zs.getD 0 0, zs.getD 1 0, zs.getD 2 0, zs.getD 3 0] := by
  match zs, h with
  | [a, b, c, d], _ => rfl
theorem list5 {zs : List Int} (h : zs.length = 5) : zs = [zs.getD 0 0, zs.getD 1 0, zs.getD 2 0, zs.getD 3 0, zs.getD 4 0] := by
  match zs, h with
  | [a, b, c, d, e], _ => rfl
theorem list1 {zs : List Int} (h : zs.length = 1) : zs = [zs.getD 0 0] := by
  match zs, h with
  | [a], _ => rfl
theorem getP_un {l r : Bs} {c : Ca} (h : getP l = some (c, r)) : mayPut c = true ∧ l = putP c ++ r := by
  simp only [getP, g1, g2, g3, g4, g5, g6, Option.bind_eq_some_iff] at h
  obtain ⟨p1, h1, p2, h2, p3, h3, p4, h4, p5, h5, p6, h6, h⟩ := h
  have e1 := numN_un (v := p1.1) (r := p1.2) h1
  have e2 := txtP_un (x := p2.1) (r := p2.2) h2
  have e3 := txtP_un (x := p3.1) (r := p3.2) h3
  have e4 := intsP_un (zs := p4.1) (r := p4.2) h4
  have e5 := txtP_un (x := p5.1) (r := p5.2) h5
  have e6 := intsP_un (zs := p6.1) (r := p6.2) h6
  injection h with h
  injection h with hc hr
  subst hc
  subst hr
  refine ⟨by simp [mayPut, ba_size, e2.2, e3.2, e5.2], ?_⟩
  simp only [putP, bs_ba, List.append_assoc]
  rw [← list4 e4.2, ← list4 e6.2, ← e6.1, ← e5.1, ← e4.1, ← e3.1, ← e2.1]
  exact e1
theorem entP_un {l r : Bs} {e : En} (h : entP l = some (e, r)) : e.name.size ≤ 65536 ∧ l = entB e ++ r := by
  simp only [entP, Option.bind_eq_some_iff, Option.map_eq_some_iff] at h
  obtain ⟨p, hp, q, hq, h⟩ := h
  injection h with h1 h2
  have e1 := txtP_un (x := p.1) (r := p.2) hp
  have e2 := intsP_un (zs := q.1) (r := q.2) hq
  subst h1
  subst h2
  refine ⟨by rw [ba_size]; exact e1.2, ?_⟩
  simp only [entB, bs_ba, List.append_assoc]
  rw [← list1 e2.2, ← e2.1]
  exact e1.1
theorem manyP_un {α : Type} {f : Bs → Option (α × Bs)} {g : α → Bs} {p : α → Prop} (hf : ∀ l x r, f l = some (x, r) → p x ∧ l = g x ++ r) : ∀ {k : Nat} {l r : Bs} {xs : List α}, manyP f k l = some (xs, r) → (∀ x ∈ xs, p x) ∧ l = xs.flatMap g ++ r
  | 0, l, r, xs, h => by simp [manyP] at h; obtain ⟨rfl, rfl⟩ := h; simp
  | k + 1, l, r, xs, h => by
    simp only [manyP, Option.bind_eq_some_iff, Option.map_eq_some_iff] at h
    obtain ⟨a, ha, q, hq, h⟩ := h
    injection h with h1 h2
    subst h1
    subst h2
    have e1 := hf l a.1 a.2 ha
    have e2 := manyP_un hf (xs := q.1) (r := q.2) hq
    refine ⟨fun x hx => ?_, ?_⟩
    · simp only [List.mem_cons] at hx
      rcases hx with rfl | hx
      · exact e1.1
      · exact e2.1 x hx
    · rw [List.flatMap_cons, List.append_assoc, ← e2.2]
      exact e1.2
theorem nodeP_un {l r : Bs} {n : Nd} (h : nodeP l = some (n, r)) : mayNode n = true ∧ l = nodeB n ++ r := by
  simp only [nodeP, n1, n2, n3, n4, n5, n6, n7, Option.bind_eq_some_iff] at h
  obtain ⟨p1, h1, p2, h2, p3, h3, p4, h4, p5, ⟨p7, h7, h5⟩, p6, h6, h⟩ := h
  have e1 := numN_un (v := p1.1) (r := p1.2) h1
  have e2 := intsP_un (zs := p2.1) (r := p2.2) h2
  have e3 := txtP_un (x := p3.1) (r := p3.2) h3
  have e4 := txtP_un (x := p4.1) (r := p4.2) h4
  have e7 := lenP_un (n := p7.1) (r := p7.2) h7
  have e8 := lenP_le (x := p7.1) (r := p7.2) h7
  have e5 := manyP_un (f := entP) (g := entB) (fun l x r => entP_un) (xs := p5.1) (r := p5.2) h5
  have e9 := manyP_len (xs := p5.1) (r := p5.2) h5
  have e6 := intsP_un (zs := p6.1) (r := p6.2) h6
  injection h with h
  injection h with hc hr
  subst hc
  subst hr
  refine ⟨?_, ?_⟩
  · have h512 : p5.1.length ≤ 512 := by omega
    simp [mayNode, mayEnts, ba_size, e3.2, e4.2, h512]
    exact e5.1
  · simp only [nodeB, bs_ba, List.append_assoc, List.nil_append]
    rw [← list5 e2.2, ← list1 e6.2, ← e6.1, show entsB p5.1 = p5.1.flatMap entB from rfl, ← e5.2, e9, ← e7, ← e4.1, ← e3.1, ← e2.1]
    exact e1
theorem treeP_un {l r : Bs} {now : Int} {ns : List Nd} (h : treeP l = some ((now, ns), r)) : mayTree ns = true ∧ l = treeB now ns ++ r := by
  simp only [treeP, nodesP9, Option.bind_eq_some_iff, Option.map_eq_some_iff] at h
  obtain ⟨p, hp, q, ⟨p7, h7, h5⟩, h⟩ := h
  injection h with h hr
  injection h with hc hn
  have e1 := intsP_un (zs := p.1) (r := p.2) hp
  have e7 := lenP_un (n := p7.1) (r := p7.2) h7
  have e8 := lenP_le (x := p7.1) (r := p7.2) h7
  have e5 := manyP_un (f := nodeP) (g := nodeB) (fun l x r => nodeP_un) (xs := q.1) (r := q.2) h5
  have e9 := manyP_len (xs := q.1) (r := q.2) h5
  subst hc hn hr
  refine ⟨?_, ?_⟩
  · have h513 : q.1.length ≤ 513 := by omega
    simp [mayTree, h513]
    exact e5.1
  · simp only [treeB, List.append_assoc]
    rw [← list1 e1.2, show nodesB q.1 = q.1.flatMap nodeB from rfl, ← e5.2, e9, ← e7]
    exact e1.1
end Go.Proofs.Ytbofidpoajdcmab.Cd
