/- Spoil: the program's. -/
import Derived.Test.YtfpimebamkmjoaaDOps
import Derived.Test.YtfpimebamkmjoaaDiskRefSpoil
import Derived.Deep.RegionLaw
namespace Go.Proofs.Ytfpimebamkmjoaa
open Go.RowKit
set_option linter.unusedVariables false

section
variable {P : Program} {ops : Array Oper} {o : Oper} {a : Act} {w w' : World} {K : Act → World → Prop} {Q : Exit → Act → World → Prop} {E : Prop}
theorem step_copy_run {vs vx v' : Value} {t tx : TypeId} (hgd : o.guard = none) (s x : Operand)
    (ho : o.op = .call { callee := .builtin .copy, args := #[s, x], argTypes := #[t, tx] }) (hs : a.eval s = vs) (hx : a.eval x = vx)
    (hr : (Builtin.copy_ #[t, tx] o.type #[vs, vx]).run P w = .ok v' w') (h : K (a.put o.dst v') w') : if Region.wanted o (yielded ops a.tmps) = true then Oper.wp P o a w K Q else E := by
  have hw : Region.wanted o (yielded ops a.tmps) = true := by simp [Region.wanted, hgd]
  rw [if_pos hw]
  unfold Oper.wp execOp
  simp only [ho, resolve, invoke, builtin, Sem.run_bind, Sem.run_pure, Result.andThen_ok, List.map_toArray, List.map_cons, List.map_nil, hs, hx, hr]
  exact h
end
section
variable {ops : Array Oper} {o : Oper} {a : Act} {w w' : World} {K : Act → World → Prop} {Q : Exit → Act → World → Prop} {E : Prop} {base b p cap c n : Nat} {d s : ByteArray} {A : Option Addr}
theorem step_copy_none (hgd : o.guard = none) (t x : Operand) (ho : o.op = .call { callee := .builtin .copy, args := #[t, x], argTypes := #[69, 9] }) {m : Nat} (hs : a.eval t = .slice A m c) (hm : m = 0) (hx : a.eval x = .string s)
    (h : ∀ r, K (a.put o.dst r) w) : if Region.wanted o (yielded ops a.tmps) = true then Oper.wp Try.prog o a w K Q else E :=
  step_copy_run hgd t x ho (hm ▸ hs) hx (bytes_copy0 w A c s o.type) (h _)
theorem step_copy_some (hgd : o.guard = none) (t x : Operand) (ho : o.op = .call { callee := .builtin .copy, args := #[t, x], argTypes := #[69, 9] }) (hs : a.eval t = .slice (some ⟨b, p, none⟩) (d.size - p) c) (hx : a.eval x = .string s)
    (hb : BytesAt w base (.slice (some ⟨b, 0, none⟩) n cap) d) (hp : p ≤ d.size) (h : ∀ r w', BytesAt w' base (.slice (some ⟨b, 0, none⟩) n cap) (overS d s p) → Touch [b] w w' → K (a.put o.dst r) w') : if Region.wanted o (yielded ops a.tmps) = true then Oper.wp Try.prog o a w K Q else E := by
  obtain ⟨r, w', hr, h1, h2⟩ := bytes_copy hb hp s o.type c
  exact step_copy_run hgd t x ho hs hx hr (h r w' h1 h2)
end
section
variable {w w1 w' : World} {base g mb : Nat} {vF : Value} {E E' : List Ent} {K G : List Nat} {D D' : DiskS}
set_option maxRecDepth 100000 in
set_option maxHeartbeats 4000000 in
theorem spoil_run (h : PAt w base g mb vF E K D) (hok : ProgOk D) (n : ByteArray) (a : Int) (s : ByteArray) (hn : n.size ≤ maxLen) (ha : (Lit.int .i64 a).wf = true) (hs : s.size ≤ 1048576) : Calls Try.prog 33 #[ptr g, .string n, .int .i64 a, .string s] w (EndAt ProgAt base g (blocksP g mb E K) w (err (spoilS D n a s).1) (spoilS D n a s).2) := by
  have HH := Lib.hid h
  by_cases hf : findS D.l n < D.l.length
  · obtain ⟨x, hx, hl, hxn⟩ := ent_at h hf
    have ho := Lib.hid (look_yes h hx (by rw [hxn]; exact hn))
    rw [hxn] at ho
    by_cases hk : a < 0
    · rw [spoilS_arg hf hk]
      clear h hok hx hl hxn hf ha
      go_enter Try.func33, Try.ntmps33
      go_wp2_with fail
      refine ho.out.mono ?_
      rintro e w' ⟨rfl, rfl⟩
      go_wp2
      go_ret
      exact end_same HH.out _
    · rw [spoilS_go hf hk]
      have hX := h.ents x (List.mem_of_getElem? hx)
      have hz := (hok.sizes x.f (List.mem_of_getElem? hl)).2
      obtain ⟨d0, _, g0, _⟩ := hX.cells
      obtain ⟨p, rfl⟩ : ∃ p : Nat, a = p := ⟨a.toNat, by omega⟩
      rw [Int.toNat_natCast]
      have hk2 : decide ((p : Int) < 0) = false := decide_eq_false hk
      have hs2 := setF_set hl (fun f => { f with data := overS f.data s p })
      have HS := Lib.hid hs2
      have HX := Lib.hid hx
      have HL := Lib.hid hl
      have HZ := Lib.hid hz
      rcases Nat.lt_or_ge p x.f.data.size with hp | hp
      · rcases bytes_cases hX.2.2 with ⟨_, e2⟩ | ⟨b, cap, e, n1, n2, hb1, hb2⟩
        · omega
        have hbs := hX.2.2
        rw [e] at hbs
        rw [e] at d0
        have hm1 := @min_int Try.prog p x.f.data.size p (by split <;> omega)
        have hbm : b ∈ x.blocks := by simp [Ent.blocks, e, Value.ownBlock]
        have hne : x.b ≠ b := fun e2 => own_ne hX.2.2 hX.1 (by decide) (by rw [e, ← e2]; rfl)
        have HE := Lib.hid (fun w4 (h4 : BytesAt w4 base (.slice (some ⟨b, 0, none⟩) x.f.data.size cap) (overS x.f.data s p)) (ht : Touch [b] w w4) => (show EntAt w4 base ⟨⟨x.f.name, overS x.f.data s p, x.f.synced⟩, x.b, x.v⟩ from ⟨hX.1.touch ht (by simpa using hne), hX.2.1, by rw [e]; exact h4⟩))
        have HBM := Lib.hid hbm
        have HP := Lib.hid hp
        unfold maxLen at n2
        have i1 : (0 : Int) ≤ (p : Int) := by omega
        have i2 : (p : Int) ≤ (x.f.data.size : Int) := by omega
        have i3 : (x.f.data.size : Int) ≤ (cap : Int) := by omega
        have i4 : ¬ cap = p := by omega
        have i5 : (p : Int) ≤ (cap : Int) := by omega
        clear h hok hx hl hxn hf hX hk hs2 e hz hbm hne ha
        generalize findS D.l n = k at *
        go_enter Try.func33, Try.ntmps33
        go_wp2_with fail
        refine ho.out.mono ?_
        rintro e w' ⟨rfl, rfl⟩
        go_wp2_with fail
        go_region_law (first
          | (refine step_copy_some (base := base) (b := b) (p := p) (cap := cap) (n := x.f.data.size) (d := x.f.data) rfl _ _ rfl rfl rfl (by first | assumption | exact hbs) (Nat.le_of_lt HP.out) ?_; intro r w4 h4 ht4; have HT4 := Lib.hid (show Touch [b] w w4 from ⟨ht4.os, ht4.tape, ht4.output, ht4.size, ht4.block⟩); have H4 := Lib.hid (HE.out w4 h4 HT4.out); clear h4 ht4)
          | fail)
        all_goals
          go_step
          go_step
          go_wp2
          go_ret
          exact end_ent (G := [b]) HH.out HX.out ⟨⟨x.f.name, overS x.f.data s p, x.f.synced⟩, x.b, x.v⟩ rfl rfl HT4.out (fun y hy => by rw [List.mem_singleton.1 hy]; exact HBM.out) H4.out (fun y hy => Or.inl hy) _ (by rw [HS.out])
      · have hov : overS x.f.data s p = x.f.data := over_none x.f.data s p (Or.inl hp)
        have hD : ({ D with l := setF D.l (findS D.l n) (fun f => { f with data := overS f.data s p }) } : DiskS) = D := by
          have e : setF D.l (findS D.l n) (fun f => { f with data := overS f.data s p }) = D.l := by
            rw [HS.out, show ({ x.f with data := overS x.f.data s p } : FileS) = x.f by rw [hov]]
            apply List.ext_getElem?
            intro j
            rw [List.getElem?_set]
            by_cases e : findS D.l n = j
            · rw [if_pos e, if_pos hf, ← e, hl]
            · rw [if_neg e]
          rw [e]
        rw [hD]
        have hm1 := @min_int Try.prog p x.f.data.size x.f.data.size (by split <;> omega)
        rcases bytes_cases hX.2.2 with ⟨e, e2⟩ | ⟨b, cap, e, n1, n2, hb1, hb2⟩
        · rw [e] at d0
          have hm2 : ∀ ts t w, (Builtin.min_ ts t #[.int .i64 (p : Nat), .int .i64 0]).run Try.prog w = .ok (.int .i64 0) w := fun ts t w => by rw [run_min_int2, if_pos_or_le (by omega)]
          clear h hok hx hl hxn hf hX hk hs2 e hz hm1 ha hD hov HS
          go_enter Try.func33, Try.ntmps33
          go_wp2_with fail
          refine ho.out.mono ?_
          rintro e w' ⟨rfl, rfl⟩
          go_wp2_with fail
          go_region_law (first
            | (refine step_copy_none rfl _ _ rfl rfl rfl rfl ?_; intro r)
            | fail)
          all_goals
            go_step
            go_step
            go_wp2
            go_ret
            first | exact end_put HH.out (Touch.refl _ _) _ | exact end_put (HH.out.touch (Touch.refl [] w).drew (fun _ _ => by simp)) ((Touch.refl _ w).drew) _ | exact end_put (HH.out.touch (Touch.refl [] w).drew.drew (fun _ _ => by simp)) ((Touch.refl _ w).drew.drew) _
        · rw [e] at d0
          unfold maxLen at n2
          have i1 : (0 : Int) ≤ (x.f.data.size : Int) := by omega
          have i2 : (x.f.data.size : Int) ≤ (x.f.data.size : Int) := by omega
          have i3 : (x.f.data.size : Int) ≤ (cap : Int) := by omega
          by_cases i4 : cap = x.f.data.size
          all_goals
            clear h hok hx hl hxn hf hX hk hs2 e hz ha hD hov HS
            go_enter Try.func33, Try.ntmps33
            go_wp2_with fail
            refine ho.out.mono ?_
            rintro e w' ⟨rfl, rfl⟩
            go_wp2_with fail
            go_region_law (first
              | (refine step_copy_none rfl _ _ rfl rfl rfl rfl ?_; intro r)
              | fail)
            all_goals
              go_step
              go_step
              go_wp2
              go_ret
              first | exact end_put HH.out (Touch.refl _ _) _ | exact end_put (HH.out.touch (Touch.refl [] w).drew (fun _ _ => by simp)) ((Touch.refl _ w).drew) _ | exact end_put (HH.out.touch (Touch.refl [] w).drew.drew (fun _ _ => by simp)) ((Touch.refl _ w).drew.drew) _
  · have ho := Lib.hid (look_no h hf hn)
    rw [spoilS_none hf]
    clear h hok hf ha
    go_enter Try.func33, Try.ntmps33
    go_wp2_with fail
    refine ho.out.mono ?_
    rintro e w' ⟨rfl, rfl⟩
    go_wp2
    go_ret
    exact end_same HH.out _
end
end Go.Proofs.Ytfpimebamkmjoaa
