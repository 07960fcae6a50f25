package conf

import "replica/api"

// resource: the keys of a resource file in the order in which they are printed, their values tied to the fields of a Config.
type resource struct {
	protocol key
	sections []section
}

type section struct {
	name string
	keys []key
}

type key struct {
	name  string
	value value
}

func resourceOf(c *api.Config) resource {
	return resource{
		protocol: key{"protocol", choice{&c.Protocol, protocols()}},
		sections: []section{
			{"device", []key{
				{"blocks", number{&c.Blocks, 1, api.MaxBlocks}},
				{"block-size", power{number{&c.Size, api.MinSize, api.MaxSize}}},
				{"al-slots", number{&c.Slots, api.MinSlots, api.MaxSlots}},
			}},
			{"net", []key{
				{"window", number{&c.Window, 1, api.MaxWindow}},
				{"backlog", number{&c.Backlog, 1, api.MaxBacklog}},
				{"resend", number{&c.Resend, 1, api.MaxTicks}},
				{"timeout", number{&c.Dead, 1, api.MaxTicks}},
				{"max-epoch-size", number{&c.Epoch, 1, api.MaxEpoch}},
				{"max-queue", number{&c.Queue, 1, api.MaxQueue}},
				{"shared-secret", secret{&c.Secret}},
				{"after-sb-0pri", choice{&c.Sb0, policies(0)}},
				{"after-sb-1pri", choice{&c.Sb1, policies(1)}},
				{"after-sb-2pri", choice{&c.Sb2, policies(2)}},
			}},
			{"syncer", []key{
				{"rate", number{&c.Rate, 1, api.MaxRate}},
				{"burst", number{&c.Burst, 1, api.MaxRate}},
				{"ahead", number{&c.Ahead, 1, api.MaxAhead}},
			}},
		},
	}
}

// defaults is a Config of a file that says nothing.
func defaults() api.Config {
	return api.Config{
		Slots: 4, Protocol: api.ProtoC,
		Window: 8, Backlog: 256, Resend: 3, Dead: 20, Epoch: 16, Queue: 32,
		Sb0: api.SbDisconnect, Sb1: api.SbDisconnect, Sb2: api.SbDisconnect,
		Rate: 4, Burst: 8, Ahead: 4,
	}
}

func protocols() []named {
	return []named{{"A", api.ProtoA}, {"B", api.ProtoB}, {"C", api.ProtoC}}
}

// policies has those for a split brain with that many primaries.
func policies(primaries int) []named {
	none := named{"disconnect", api.SbDisconnect}
	switch primaries {
	case 0:
		return []named{none, {"discard-zero-changes", api.SbZero}, {"discard-least-changes", api.SbLeast}, {"discard-node-0", api.SbNode0}, {"discard-node-1", api.SbNode1}}
	case 1:
		return []named{none, {"discard-secondary", api.SbSecondary}, {"consensus", api.SbConsensus}}
	}
	return []named{none}
}

// stands tells whether each field is in its domain.
func (r resource) stands() bool {
	if !r.protocol.value.stands() {
		return false
	}
	for _, s := range r.sections {
		for _, k := range s.keys {
			if !k.value.stands() {
				return false
			}
		}
	}
	return true
}

// print tells the lines between the outer braces.
func (r resource) print() string {
	lines := "  " + r.protocol.print()
	for _, s := range r.sections {
		lines += "  " + s.name + " {\n"
		for _, k := range s.keys {
			lines += "    " + k.print()
		}
		lines += "  }\n"
	}
	return lines
}

func (k key) print() string { return k.name + " " + k.value.print() + ";\n" }
