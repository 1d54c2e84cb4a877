import Derived.Test.YtidhceebafmlkaaGreatDoorCaKp4
namespace Go.Proofs.YtidhceebafmlkaaGreatDoor.Ca
open Go.RowKit Cu Tr
theorem steps_root (ns : List Nd) (m f : Nat) : stepsUp ns m (f + 1) 1 = (0, decide (1 = m)) := by
  unfold stepsUp
  rw [if_neg (fun q => absurd q.2 (by omega))]
theorem steps_at (ns : List Nd) (m f : Nat) : stepsUp ns m (f + 1) m = (0, true) := by
  unfold stepsUp
  rw [if_neg (fun q => q.1 rfl), decide_eq_true rfl]
theorem steps_on (ns : List Nd) (m f x p : Nat) (h : x ≠ m) (h1 : 1 < x) (hp : (nd ns x).parent = (p : Int)) : stepsUp ns m (f + 1) x = ((stepsUp ns m f p).1 + 1, (stepsUp ns m f p).2) := by
  rw [stepsUp, if_pos ⟨h, h1⟩, hp, Int.toNat_natCast]
theorem steps_avoid {ns ms : List Nd} {m : Nat} (hk : ∀ i, (nd ms i).kind = (nd ns i).kind) (hp : ∀ i, i ≠ m → (nd ms i).parent = (nd ns i).parent) (hl : ms.length = ns.length) {s x : Nat} (hu : Up ns s x) : ∀ f, s + 1 ≤ f → (stepsUp ns m f x).2 = false → Up ms s x := by
  induction hu with
  | root => intro _ _ _; exact Up.root
  | @step s x p h1 h2 h3 h4 _ ih =>
    intro f hf hz
    obtain ⟨g, rfl⟩ : ∃ g, f = g + 1 := ⟨f - 1, by omega⟩
    by_cases e : x = m
    · rw [e, steps_at] at hz; cases hz
    · rw [steps_on ns m g x p e h1 h4] at hz
      exact Up.step h1 (by omega) (by rw [hk]; exact h3) (by rw [hp x e]; exact h4) (ih g (by omega) hz)
theorem steps_below {ns ms : List Nd} {m : Nat} (hk : ∀ i, (nd ms i).kind = (nd ns i).kind) (hp : ∀ i, i ≠ m → (nd ms i).parent = (nd ns i).parent) (hl : ms.length = ns.length) {u : Nat} (hm : Up ms u m) {s x : Nat} (hu : Up ns s x) : ∀ f, s + 1 ≤ f → (stepsUp ns m f x).2 = true → Up ms (u + (stepsUp ns m f x).1) x := by
  induction hu with
  | root =>
    intro f hf hz
    obtain ⟨g, rfl⟩ : ∃ g, f = g + 1 := ⟨f - 1, by omega⟩
    rw [steps_root] at hz ⊢
    have e : 1 = m := of_decide_eq_true hz
    rw [← e] at hm
    exact hm
  | @step s x p h1 h2 h3 h4 _ ih =>
    intro f hf hz
    obtain ⟨g, rfl⟩ : ∃ g, f = g + 1 := ⟨f - 1, by omega⟩
    by_cases e : x = m
    · rw [e, steps_at]; exact hm
    · rw [steps_on ns m g x p e h1 h4] at hz ⊢
      exact Up.step h1 (by omega) (by rw [hk]; exact h3) (by rw [hp x e]; exact h4) (ih g (by omega) hz)
theorem no_loop {ns : List Nd} {s m : Nat} (hu : Up ns s m) (h1 : 1 < m) (hp : (nd ns m).parent = (m : Int)) : False := by
  cases hu with
  | root => omega
  | @step s _ p _ _ _ h4 h5 =>
    have e : p = m := by rw [h4] at hp; omega
    subst e
    have := up_fun h5 (Up.step h1 (by assumption) (by assumption) h4 h5)
    omega
theorem dirs_perm {ns : List Nd} {l l' : List En} (h : l.Perm l') : dirsIn ns l = dirsIn ns l' := (h.filter _).length_eq
theorem dirs_kind {ns ms : List Nd} (h : ∀ i, (nd ms i).kind = (nd ns i).kind) (l : List En) : dirsIn ms l = dirsIn ns l := by
  unfold dirsIn
  simp only [h]
theorem dirs_cons {ns : List Nd} {e : En} {l : List En} (h : (nd ns e.node.toNat).kind = 2) : dirsIn ns (e :: l) = dirsIn ns l + 1 := by
  unfold dirsIn
  rw [List.filter_cons, if_pos (by simp [h]), List.length_cons]
structure MoveD (ns us ms : List Nd) (d d' m : Nat) : Prop where
  lu : us.length = ns.length
  lm : ms.length = ns.length
  dl : d < ns.length
  dl' : d' < ns.length
  dk : (nd ns d).kind = 2
  dk' : (nd ns d').kind = 2
  m1 : 1 < m
  ml : m < ns.length
  k2 : (nd ns m).kind = 2
  ku : ∀ i, (nd us i).kind = (nd ns i).kind
  km : ∀ i, (nd ms i).kind = (nd ns i).kind
  par : ∀ i, i ≠ m → (nd ms i).parent = (nd ns i).parent
  parm : (nd ms m).parent = (d' : Int)
  ru : ∀ i, i ≠ d → (nd us i).list = (nd ns i).list ∧ (nd us i).links = (nd ns i).links
  rm : ∀ i, i ≠ d' → (nd ms i).list = (nd us i).list ∧ (nd ms i).links = (nd us i).links
  lid : (nd us d).links + 1 = (nd ns d).links
  lid' : (nd ms d').links = (nd us d').links + 1
  pu : ∃ e : En, e.node = (m : Int) ∧ (nd ns d).list.Perm (e :: (nd us d).list)
  pm : ∃ e : En, e.node = (m : Int) ∧ (nd ms d').list.Perm (e :: (nd us d').list)
  no : (stepsUp ns m 33 d').2 = false
  deep : ∃ u, Up ns u d' ∧ u ≤ 32 ∧ ∀ i, i < ns.length → (nd ns i).kind = 2 → (stepsUp ns m 33 i).2 = true → u + 1 + (stepsUp ns m 33 i).1 ≤ 32
theorem MoveD.hung {ns us ms : List Nd} {d d' m : Nat} (h : MoveD ns us ms d d' m) (g : Hung ns) : Hung ms := by
  obtain ⟨e, he, hpu⟩ := h.pu
  obtain ⟨e', he', hpm⟩ := h.pm
  have wtd : ∀ (l : List Nd) (x y : Nat), (nd l y).kind = 2 → wt l x y = (tg l y).count x := fun l x y q => by unfold wt; rw [if_pos q]
  have tu : ∀ x, (times us x + if x = m then 1 else 0) = times ns x := by
    intro x
    have q := times_change (ns := ns) (ms := us) (x := x) (d := d) fun y hy => by
      unfold wt tg; rw [h.ku, (h.ru y hy).1]
    rw [wtd ns x d h.dk, wtd us x d (by rw [h.ku]; exact h.dk)] at q
    have q2 := Perm_count he hpu x
    unfold tg at q
    omega
  have tm : ∀ x, times ms x = times us x + if x = m then 1 else 0 := by
    intro x
    have q := times_change (ns := us) (ms := ms) (x := x) (d := d') fun y hy => by
      unfold wt tg; rw [h.km, h.ku, (h.rm y hy).1]
    rw [wtd us x d' (by rw [h.ku]; exact h.dk'), wtd ms x d' (by rw [h.km]; exact h.dk')] at q
    have q2 := Perm_count he' hpm x
    unfold tg at q
    omega
  have tt : ∀ x, times ms x = times ns x := fun x => by rw [tm, tu]
  have tum : times us m = 0 := by
    have := tu m
    rw [if_pos rfl, g.once m (by have := h.m1; omega) h.ml h.k2] at this
    omega
  have hnm : ∀ c, (nd us c).kind = 2 → ∀ x ∈ (nd us c).list, x.node.toNat ≠ m := fun c hc x hx q => by
    have := named hc hx
    rw [q] at this
    omega
  have sub : ∀ c, ∀ x ∈ (nd us c).list, x ∈ (nd ns c).list := by
    intro c x hx
    by_cases ec : c = d
    · subst ec; exact hpu.mem_iff.2 (List.mem_cons_of_mem _ hx)
    · rw [(h.ru c ec).1] at hx; exact hx
  obtain ⟨u, hu, hu32, hdeep⟩ := h.deep
  have hud : Up ms u d' := steps_avoid h.km h.par h.lm hu 33 (by omega) h.no
  have hum : Up ms (u + 1) m := Up.step h.m1 (by have := h.ml; have := h.lm; omega) (by rw [h.km]; exact h.k2) h.parm hud
  have hok : ∀ c, (nd ns c).kind = 2 → c < ns.length → ∀ x ∈ (nd us c).list, okTo ms c x := by
    intro c hc hcl x hx
    obtain ⟨a1, a2, a3, a4⟩ := (g.good c hcl hc).1.1 x (sub c x hx)
    refine ⟨a1, by rw [h.lm]; exact a2, by rw [h.km]; exact a3, fun q => ?_⟩
    rw [h.km] at q
    rw [h.par _ (hnm c (by rw [h.ku]; exact hc) x hx)]
    exact a4 q
  have hlu : ∀ c, (nd ns c).kind = 2 → c < ns.length → (nd us c).links = 2 + (dirsIn ns (nd us c).list : Int) := by
    intro c hc hcl
    have q := (g.good c hcl hc).1.2
    by_cases ec : c = d
    · subst ec
      rw [dirs_perm hpu, dirs_cons (by rw [he, Int.toNat_natCast]; exact h.k2)] at q
      have := h.lid
      omega
    · rw [(h.ru c ec).1, (h.ru c ec).2]; exact q
  refine ⟨fun c hcl hc => ?_, fun x h2 hx hk => ?_, fun x h2 hx hk => ?_, fun x h2 hx hk hk2 => ?_⟩
  · rw [h.km] at hc
    rw [h.lm] at hcl
    refine ⟨⟨fun x hx => ?_, ?_⟩, ?_⟩
    · by_cases ec : c = d'
      · subst ec
        rcases List.mem_cons.1 (hpm.mem_iff.1 hx) with rfl | hx
        · refine ⟨by have := h.m1; omega, by have := h.ml; have := h.lm; omega, ?_, fun _ => ?_⟩
          · rw [he', Int.toNat_natCast, h.km, h.k2]; decide
          · rw [he', Int.toNat_natCast]; exact h.parm
        · exact hok _ hc hcl x hx
      · rw [(h.rm c ec).1] at hx; exact hok c hc hcl x hx
    · rw [dirs_kind h.km]
      by_cases ec : c = d'
      · subst ec
        rw [dirs_perm hpm, dirs_cons (by rw [he', Int.toNat_natCast]; exact h.k2), h.lid', hlu _ hc hcl]
        omega
      · rw [(h.rm c ec).1, (h.rm c ec).2]; exact hlu c hc hcl
    · obtain ⟨_, s, hs, hx⟩ := g.good c hcl hc
      cases hz : (stepsUp ns m 33 c).2 with
      | false => exact ⟨s, hs, steps_avoid h.km h.par h.lm hx 33 (by omega) hz⟩
      | true => exact ⟨_, hdeep c hcl hc hz, steps_below h.km h.par h.lm hum hx 33 (by omega) hz⟩
  · rw [tt]; rw [h.km] at hk; exact g.listed x h2 (by rw [← h.lm]; exact hx) hk
  · rw [tt]; rw [h.km] at hk; exact g.once x h2 (by rw [← h.lm]; exact hx) hk
  · rw [tt]
    rw [h.km] at hk hk2
    have e1 : (nd ms x).links = (nd us x).links := (h.rm x fun q => hk2 (q ▸ h.dk')).2
    have e2 : (nd us x).links = (nd ns x).links := (h.ru x fun q => hk2 (q ▸ h.dk)).2
    rw [e1, e2]
    exact g.links x h2 (by rw [← h.lm]; exact hx) hk hk2
theorem keep_move {now : Int} {ns : List Nd} (hc : checkP now ns = true) {d m d' : Nat} {s s' : ByteArray} (hd : d < ns.length) (hk : (nd ns d).kind = 2) (hm : findP (nd ns d).list s = (m : Int)) (h0 : m ≠ 0)
    (hd' : d' < ns.length) (hk' : (nd ns d').kind = 2) (hs : findP (nd ns d').list s' = 0) (hn : nameP s' = true) (hl : d' = d ∨ (nd ns d').list.length < 512)
    (hno : (nd ns m).kind = 2 → (stepsUp ns m 33 d').2 = false) (hdeep : (nd ns m).kind = 2 → ∃ u, Up ns u d' ∧ u ≤ 32 ∧ ∀ i, i < ns.length → (nd ns i).kind = 2 → (stepsUp ns m 33 i).2 = true → u + 1 + (stepsUp ns m 33 i).1 ≤ 32) :
    checkP now (listD now (unlistD now ns d s m) d' s' m) = true ∧ d ≠ m ∧ d' ≠ m ∧ 1 < m ∧ m < ns.length ∧ (nd ns m).kind ≠ 0 := by
  obtain ⟨t, a, b, c, r, rp, z, l1, l2, k, hg⟩ := check_all hc
  obtain ⟨p1, p2, p3, hm1, hml, hmk, hmp, hpe⟩ := name_known hc hd hk hm h0
  have hdm : d ≠ m := by
    intro e
    subst e
    obtain ⟨_, s, _, hu⟩ := hg.good d hd hk
    exact no_loop hu hm1 (hmp hk)
  have hdm' : d' ≠ m := by
    intro e
    subst e
    have := hno hk'
    rw [steps_at] at this
    cases this
  refine ⟨?_, hdm, hdm', hm1, hml, hmk⟩
  obtain ⟨K, hK⟩ : ∃ K : Int, K = if (nd ns m).kind = 2 then 1 else 0 := ⟨_, rfl⟩
  obtain ⟨u, hu⟩ : ∃ u, u = unlistD now ns d s m := ⟨_, rfl⟩
  have hul : u.length = ns.length := by rw [hu, unlistD_len]
  have hun : ∀ j, nd u j = if j = d then { nd ns d with list := delE (nd ns d).list (posE (nd ns d).list s), time := now, links := (nd ns d).links - K } else nd ns j := by
    intro j
    rw [hu, nd_unlistD _ _ _ _ _ hd, p3, hK]
    simp only [if_true]
  have hum : nd u m = nd ns m := by rw [hun, if_neg (fun e => hdm e.symm)]
  have hku : ∀ i, (nd u i).kind = (nd ns i).kind := by
    intro i; rw [hun]; split
    · rename_i e; rw [e]
    · rfl
  have hpu : ∀ i, (nd u i).parent = (nd ns i).parent := by
    intro i; rw [hun]; split
    · rename_i e; rw [e]
    · rfl
  have huD : nd u d = { nd ns d with list := delE (nd ns d).list (posE (nd ns d).list s), time := now, links := (nd ns d).links - K } := by rw [hun, if_pos rfl]
  rw [← hu]
  have hlistu : listP (nd u d').list = true ∧ (∀ e ∈ (nd u d').list, e.name ≠ s') ∧ (nd u d').list.length < 512 := by
    have hne := entries_ne hc hd' hk' hs
    by_cases e : d' = d
    · subst e
      rw [huD]
      refine ⟨del_list (dir_listP (k d') hk) _, fun e he => hne e ((del_subl _ _).subset he), ?_⟩
      have h1 := (listP_iff.1 (dir_listP (k d') hk)).1
      have h2 := hpe.length_eq
      simp only [List.length_cons] at h2
      show (delE _ _).length < 512
      omega
    · rw [hun, if_neg e]
      refine ⟨dir_listP (k d') hk', hne, ?_⟩
      rcases hl with hl | hl
      · exact absurd hl e
      · exact hl
  obtain ⟨ms, hms⟩ : ∃ ms, ms = listD now u d' s' m := ⟨_, rfl⟩
  rw [← hms]
  have hmsl : ms.length = ns.length := by rw [hms, listD_lenK, hul]
  have hnd : ∀ j, nd ms j = if j = d' then { nd u d' with list := insE (nd u d').list (posE (nd u d').list s') ⟨s', (m : Int)⟩, time := now, links := (nd u d').links + K } else if j = m ∧ (nd ns m).kind = 2 then { nd ns m with parent := (d' : Int) } else nd u j := by
    intro j
    rw [hms, nd_listD now u d' s' m (by omega) (by omega) hdm', hum, hK]
  have hnD : nd ms d' = { nd u d' with list := insE (nd u d').list (posE (nd u d').list s') ⟨s', (m : Int)⟩, time := now, links := (nd u d').links + K } := by rw [hnd, if_pos rfl]
  have hkm : ∀ i, (nd ms i).kind = (nd ns i).kind := by
    intro i
    rw [hnd]
    split
    · rename_i e; rw [e]; exact hku d'
    · split
      · rename_i e; rw [e.1]
      · exact hku i
  have hpar : ∀ i, i ≠ m → (nd ms i).parent = (nd ns i).parent := by
    intro i hi
    rw [hnd]
    split
    · rename_i e; rw [e]; exact hpu d'
    · rw [if_neg (fun q => hi q.1)]; exact hpu i
  have hrm : ∀ i, i ≠ d' → (nd ms i).list = (nd u i).list ∧ (nd ms i).links = (nd u i).links := by
    intro i hi
    rw [hnd, if_neg hi]
    split
    · rename_i e; rw [e.1, hum]; exact ⟨rfl, rfl⟩
    · exact ⟨rfl, rfl⟩
  have hpm : (nd ms d').list.Perm (⟨s', (m : Int)⟩ :: (nd u d').list) := by rw [hnD]; exact ins_perm _ _ _
  have hpe' : (nd ns d).list.Perm (⟨s, (m : Int)⟩ :: (nd u d).list) := by rw [huD]; exact hpe
  have hH : Hung ms := by
    by_cases h2 : (nd ns m).kind = 2
    · rw [if_pos h2] at hK
      have D : MoveD ns u ms d d' m :=
        { lu := hul, lm := hmsl, dl := hd, dl' := hd', dk := hk, dk' := hk', m1 := hm1, ml := hml, k2 := h2, ku := hku, km := hkm, par := hpar
          parm := by rw [hnd, if_neg (fun e => hdm' e.symm), if_pos ⟨rfl, h2⟩]
          ru := fun i hi => by rw [hun, if_neg hi]; exact ⟨rfl, rfl⟩
          rm := hrm
          lid := by rw [huD, hK]; show (nd ns d).links - 1 + 1 = _; omega
          lid' := by rw [hnD, hK]
          pu := ⟨_, rfl, hpe'⟩, pm := ⟨_, rfl, hpm⟩, no := hno h2, deep := hdeep h2 }
      exact D.hung hg
    · rw [if_neg h2] at hK
      have hli := hg.links m (by omega) hml hmk h2
      have hti := hg.listed m (by omega) hml hmk
      obtain ⟨n0, hn0⟩ : ∃ n0, n0 = u.set m (lost (nd ns m)) := ⟨_, rfl⟩
      have h0l : n0.length = ns.length := by rw [hn0, List.length_set, hul]
      have h0n : ∀ j, nd n0 j = if j = m then lost (nd ns m) else nd u j := by
        intro j
        rw [hn0, nd_set, hul]
        by_cases e : j = m
        · rw [if_pos ⟨e, hml⟩, if_pos e]
        · rw [if_neg (fun q => e q.1), if_neg e]
      have h0m : nd n0 m = lost (nd ns m) := by rw [h0n, if_pos rfl]
      have h0d : nd n0 d = nd u d := by rw [h0n, if_neg hdm]
      have h0d' : nd n0 d' = nd u d' := by rw [h0n, if_neg hdm']
      have hlk : (lost (nd ns m)).kind ≠ 2 := by
        unfold lost
        split
        · exact h2
        · decide
      have D : DropF ns n0 d m :=
        { dk := hk, dk' := by rw [h0d, hku]; exact hk, dp := by rw [h0d, hpu], dn := by rw [h0d, huD, hK]; show (nd ns d).links - 0 = _; omega, nk := h2, nk2 := by rw [h0m]; exact hlk
          left := by
            rw [h0m]; unfold lost
            by_cases q : 0 < (nd ns m).links - 1
            · rw [if_pos ⟨q, h2⟩]
              exact .inr ⟨hmk, by omega, by show (nd ns m).links - 1 + 1 = _; omega⟩
            · rw [if_neg (fun x => q x.1)]
              exact .inl ⟨rfl, by omega⟩
          rest := fun i h1 h2 => by rw [h0n, if_neg h2, hun, if_neg h1]; exact ⟨rfl, rfl, rfl, rfl⟩
          perm := ⟨_, rfl, by rw [h0d]; exact hpe'⟩ }
      have ht := D.times m
      rw [if_pos rfl] at ht
      have hmm : nd ms m = nd ns m := by rw [hnd, if_neg (fun e => hdm' e.symm), if_neg (fun q => h2 q.2), hum]
      have F : PutF n0 ms d' m :=
        { len := by omega, dl := by omega, dk := by rw [h0d', hku]; exact hk', dk' := by rw [hkm]; exact hk', dp := by rw [hpar d' hdm', h0d', hpu], dn := by rw [hnD, h0d', hK]; show (nd u d').links + 0 = _; omega
          nl := hm1, nl' := by omega, nk := by rw [h0m]; exact hlk, nk0 := by rw [hkm]; exact hmk, nk2 := by rw [hkm]; exact h2
          links := by rw [hmm]; omega
          rest := fun i h1 h2' => by rw [hnd, if_neg h1, if_neg (fun q => h2 q.2), h0n, if_neg h2']; exact ⟨rfl, rfl, rfl, rfl⟩
          perm := ⟨_, rfl, by rw [h0d']; exact hpm⟩ }
      exact F.hung (D.hung hg)
  refine checkP_nd t (by omega) (by omega) (by rw [hkm]; exact c) (by rw [hkm]; exact r) (by rw [hpar 1 (by omega)]; exact rp) (by rw [hkm, hmsl]; exact z) ?_ ?_ (fun j => ?_) hH
  · rw [bytes_same (ns := ns) fun j => by
      rw [hnd]
      split
      · rename_i e; rw [e, hun]
        split
        · rename_i e2; rw [e2]
        · rfl
      · split
        · rename_i e; rw [e.1]
        · rw [hun]
          split
          · rename_i e2; rw [e2]
          · rfl]
    exact l1
  · have h1 := names_change (ns := ns) (ms := u) d fun j hj => by rw [hun, if_neg hj]
    have h2 := names_change (ns := u) (ms := ms) d' fun j hj => by rw [(hrm j hj).1]
    have h3 := hpe'.length_eq
    have h4 := hpm.length_eq
    simp only [List.length_cons] at h3 h4
    omega
  · rw [hnd]
    split
    · rename_i e
      have q : kindP (nd u d') = true := by
        rw [hun]
        split
        · rename_i e2
          exact dir_list' (k d) hk t _ (del_list (dir_listP (k d) hk) _) _ _
        · exact k d'
      exact dir_list' q (by rw [hku]; exact hk') t _ (ins_list hlistu.1 hlistu.2.1 hn hlistu.2.2 _) _ _
    · split
      · rename_i e
        have q := dirP_of (k m) e.2
        exact kind_dir e.2 q
      · rw [hun]
        split
        · exact dir_list' (k d) hk t _ (del_list (dir_listP (k d) hk) _) _ _
        · exact k j
end Go.Proofs.YtidhceebafmlkaaGreatDoor.Ca
