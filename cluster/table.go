package cluster

// handler: what has to stand in a line of one kind of event, and what is done by it.
type handler struct {
	form string // the words behind the first one, by their kinds
	more string // the kind of one that may stand behind these; "": none may
	play func(c *Cluster, ev event) []string
}

// handlers has the events by their first words. Start-up code fills it; nothing changes it behind that.
var handlers = map[string]handler{}

func init() {
	handlers["up"] = handler{"NODE", "", (*Cluster).up}
	handlers["crash"] = handler{"NODE PICKS", "", (*Cluster).crash}
	handlers["wipe"] = handler{"NODE", "", (*Cluster).wipe}
	handlers["scribble"] = handler{"NODE NUMBER FILL", "", (*Cluster).scribble}
	handlers["spoil"] = handler{"NODE NUMBER", "", (*Cluster).spoil}
	handlers["fuse"] = handler{"NODE NUMBER PICKS", "", (*Cluster).fuse}

	handlers["connect"] = handler{"NODE", "discard", (*Cluster).connect}
	handlers["disconnect"] = handler{"NODE", "", (*Cluster).disconnect}
	handlers["promote"] = handler{"NODE", "force", (*Cluster).promote}
	handlers["demote"] = handler{"NODE", "", (*Cluster).demote}
	handlers["verify"] = handler{"NODE", "", (*Cluster).verify}
	handlers["invalidate"] = handler{"NODE", "", (*Cluster).invalidate}

	handlers["read"] = handler{"NODE NUMBER", "", (*Cluster).read}
	handlers["write"] = handler{"NODE NUMBER FILL", "LENGTH", (*Cluster).write}
	handlers["zero"] = handler{"NODE NUMBER", "", (*Cluster).zero}
	handlers["flush"] = handler{"NODE", "", (*Cluster).flush}

	handlers["tick"] = handler{"NODE", "", (*Cluster).tick}
	handlers["deliver"] = handler{"NODE NUMBER", "", (*Cluster).deliver}
	handlers["drop"] = handler{"NODE NUMBER", "", (*Cluster).drop}
	handlers["copy"] = handler{"NODE NUMBER", "", (*Cluster).copy}
	handlers["part"] = handler{"", "", (*Cluster).part}
	handlers["heal"] = handler{"", "", (*Cluster).heal}
	handlers["run"] = handler{"ROUNDS", "", (*Cluster).run}

	handlers["status"] = handler{"NODE", "", (*Cluster).tellStatus}
	handlers["progress"] = handler{"NODE", "", (*Cluster).tellProgress}
	handlers["gens"] = handler{"NODE", "", (*Cluster).tellGens}
	handlers["why"] = handler{"NODE", "", (*Cluster).tellWhy}
	handlers["covered"] = handler{"NODE", "", (*Cluster).tellCovered}
	handlers["data"] = handler{"NODE", "", (*Cluster).tellData}
	handlers["net"] = handler{"", "", (*Cluster).tellNet}
}
